import Derived.Test.YtoimglbjepppmaaDoorMh
namespace Go.Proofs.YtoimglbjepppmaaDoor
open Go.RowKit Go.Shelf FieldNum

set_option maxRecDepth 100000 in
set_option maxHeartbeats 2000000 in
theorem innerOf_num (x y : Nat) (hx : x < M) (hy : y < M) (w : World) (hGl0 : G2 w) :
    Calls Tryd.prog 76 #[pv x y] w fun ex w' => ex = .returned (iv x y 1 (fmul x y)) ∧ Grown w w' := by
  have hW := Grown.refl w
  have hGl := hGl0
  go_enter Tryd.func76, Tryd.ntmps76
  repeat ((fail_if_success (with_reducible show Code.wp _ (Code.region _ _ _) _ _ _)); go_step)
  refine wp_plain [.box 37 (pcs (x) (y)), .new 93 128] (by kernel_rfl) (fun β => ?_) (fun β w1 hD => ?_)
  · refine Obs.cons (Ob.box rfl rfl (by kernel_rfl)) ?_
    refine Obs.cons (Ob.new _ rfl rfl zeroI (by simp [ics_length])) ?_
    exact Obs.nil
  obtain ⟨hf_b0, hr_b0⟩ := hD.bx 0 _ _ rfl
  replace hf_b0 := Nat.le_trans hW.2.2 hf_b0
  obtain ⟨hf_b1, ht_b1⟩ := hD.nw 1 _ _ rfl
  replace hf_b1 := Nat.le_trans hW.2.2 hf_b1
  replace hW := grown_trans hW hD.gr
  clear hD
  simp only [finAct, putAll, valsFrom, Plan.value, Act.put, List.setIfInBounds_toArray, List.set_cons_zero, List.set_cons_succ]
  replace hGl := hGl0.grown hW
  generalize β 0 = b0 at *
  generalize β (0 + 1) = b1 at *
  have hr_b0x : w1.rangeAt b0 0 (bl (x)) := rangeAt_left hr_b0
  have hr_b0y : w1.rangeAt b0 32 (bl (y)) := rangeAt_right 32 (bl_length _) hr_b0
  repeat ((fail_if_success (with_reducible show Code.wp _ (Code.region _ _ _) _ _ _)); go_step)
  replace hr_b0 := rangeAt_grown hr_b0 (gdrew w1)
  replace hr_b0x := rangeAt_grown hr_b0x (gdrew w1)
  replace hr_b0y := rangeAt_grown hr_b0y (gdrew w1)
  replace ht_b1 := there_grown ht_b1 (gdrew w1)
  replace hW := grown_trans hW (gdrew w1)
  replace hGl := hGl0.grown hW
  refine wp_loose_fin [.val (pv (x) (y)), .val (bv (1)), .imm (.pointer (some ⟨b0, 0, none⟩)), .val (bv (x)), .imm (.pointer (some ⟨b0, 32, none⟩)), .val (bv (y)), .val (bv (fmul (x) (y))), .imm (iv (x) (y) (1) (fmul (x) (y))), .fin] (b1) 0 (fun _ => ics (x) (y) (1) (fmul (x) (y))) (by kernel_rfl) (by kernel_rfl) (fun β => ?_) (fun β w2 hD => ?_)
  · refine Obs.cons (Ob.load (b0) 0 (pcs (x) (y)) rfl rfl (by kernel_rfl) hr_b0 Tryd.underlying37 rfl (by rw [pcs_length]; exact infoP)) ?_
    refine Obs.cons (Ob.load (2) 0 (bl (1)) rfl rfl (by kernel_rfl) hGl.g2.pone Tryd.underlying23 rfl (by rw [bl_length]; exact info32)) ?_
    refine Obs.cons (Ob.imm rfl (fun w => by kernel_rfl)) ?_
    refine Obs.cons (Ob.load (b0) 0 (bl (x)) rfl rfl (by kernel_rfl) hr_b0x Tryd.underlying23 rfl (by rw [bl_length]; exact info32)) ?_
    refine Obs.cons (Ob.imm rfl (fun w => by kernel_rfl)) ?_
    refine Obs.cons (Ob.load (b0) 32 (bl (y)) rfl rfl (by kernel_rfl) hr_b0y Tryd.underlying23 rfl (by rw [bl_length]; exact info32)) ?_
    refine Obs.cons (Ob.call 12 #[bv (x), bv (y)] rfl (fun w => by kernel_rfl) (fun w hg => Mul_f (x) (y) hx hy w)) ?_
    refine Obs.cons (Ob.imm rfl (fun w => exec_build rfl (by kernel_rfl) (build_inn _ _ _ _ w))) ?_
    refine Obs.cons (Ob.fin rfl (by rw [ics_length]; exact ht_b1) rfl (by kernel_rfl) (by kernel_rfl) (by rw [ics_length]; exact infoI) (ics_one _ _ _ _)) ?_
    exact Obs.nil
  replace hr_b0 := rangeAt_grown hr_b0 hD.gr
  replace hr_b0x := rangeAt_grown hr_b0x hD.gr
  replace hr_b0y := rangeAt_grown hr_b0y hD.gr
  replace ht_b1 := there_grown ht_b1 hD.gr
  replace hW := grown_trans hW hD.gr
  clear hD
  simp only [finAct, putAll, valsFrom, Plan.value, Act.put, List.setIfInBounds_toArray, List.set_cons_zero, List.set_cons_succ]
  replace hGl := hGl0.grown hW
  have hs2 := World.rangeAt_setCells_same w2 (b1) 0 (ics (x) (y) (1) (fmul (x) (y))) (by rw [ics_length]; exact ht_b1)
  replace hW := grown_setCells hf_b1 (ics (x) (y) (1) (fmul (x) (y))) 0 hW
  generalize w2.setCells (b1) 0 (ics (x) (y) (1) (fmul (x) (y))) = w2s at *
  repeat go_step
  refine bodyPost_ret (v := iv (x) (y) (1) (fmul (x) (y))) (result_cells Tryd.results76 _ _ (b1) _ ?hp hs2 Tryd.underlying93 rfl (by rw [ics_length]; exact infoI)) ?hd ?_
  case hp => rfl
  case hd => rfl
  exact ⟨rfl, hW⟩

set_option maxRecDepth 100000 in
set_option maxHeartbeats 2000000 in
theorem quotients_num (a b c e : Nat) (ha : a < M) (hb : b < M) (hc : c < M) (he : e < M) (w : World) :
    Calls Tryd.prog 97 #[bv a, bv b, bv c, bv e] w fun ex w' => ex = .returned (iv (fmul a e) (fmul c b) (fmul b e) (fmul a c)) ∧ Grown w w' := by
  have hW := Grown.refl w
  go_enter Tryd.func97, Tryd.ntmps97
  repeat ((fail_if_success (with_reducible show Code.wp _ (Code.region _ _ _) _ _ _)); go_step)
  refine wp_plain [.box 23 (bl (a)), .box 23 (bl (b)), .box 23 (bl (c)), .box 23 (bl (e)), .new 93 128] (by kernel_rfl) (fun β => ?_) (fun β w1 hD => ?_)
  · refine Obs.cons (Ob.box rfl rfl (by kernel_rfl)) ?_
    refine Obs.cons (Ob.box rfl rfl (by kernel_rfl)) ?_
    refine Obs.cons (Ob.box rfl rfl (by kernel_rfl)) ?_
    refine Obs.cons (Ob.box rfl rfl (by kernel_rfl)) ?_
    refine Obs.cons (Ob.new _ rfl rfl zeroI (by simp [ics_length])) ?_
    exact Obs.nil
  obtain ⟨hf_b0, hr_b0⟩ := hD.bx 0 _ _ rfl
  replace hf_b0 := Nat.le_trans hW.2.2 hf_b0
  obtain ⟨hf_b1, hr_b1⟩ := hD.bx 1 _ _ rfl
  replace hf_b1 := Nat.le_trans hW.2.2 hf_b1
  obtain ⟨hf_b2, hr_b2⟩ := hD.bx 2 _ _ rfl
  replace hf_b2 := Nat.le_trans hW.2.2 hf_b2
  obtain ⟨hf_b3, hr_b3⟩ := hD.bx 3 _ _ rfl
  replace hf_b3 := Nat.le_trans hW.2.2 hf_b3
  obtain ⟨hf_b4, ht_b4⟩ := hD.nw 4 _ _ rfl
  replace hf_b4 := Nat.le_trans hW.2.2 hf_b4
  replace hW := grown_trans hW hD.gr
  clear hD
  simp only [finAct, putAll, valsFrom, Plan.value, Act.put, List.setIfInBounds_toArray, List.set_cons_zero, List.set_cons_succ]
  generalize β 0 = b0 at *
  generalize β (0 + 1) = b1 at *
  generalize β (0 + 1 + 1) = b2 at *
  generalize β (0 + 1 + 1 + 1) = b3 at *
  generalize β (0 + 1 + 1 + 1 + 1) = b4 at *
  repeat ((fail_if_success (with_reducible show Code.wp _ (Code.region _ _ _) _ _ _)); go_step)
  replace hr_b0 := rangeAt_grown hr_b0 (gdrew w1)
  replace hr_b1 := rangeAt_grown hr_b1 (gdrew w1)
  replace hr_b2 := rangeAt_grown hr_b2 (gdrew w1)
  replace hr_b3 := rangeAt_grown hr_b3 (gdrew w1)
  replace ht_b4 := there_grown ht_b4 (gdrew w1)
  replace hW := grown_trans hW (gdrew w1)
  refine wp_loose_fin [.val (bv (a)), .val (bv (e)), .val (bv (fmul (a) (e))), .val (bv (c)), .val (bv (b)), .val (bv (fmul (c) (b))), .imm (pv (fmul (a) (e)) (fmul (c) (b))), .val (bv (b)), .val (bv (e)), .val (bv (fmul (b) (e))), .val (bv (a)), .val (bv (c)), .val (bv (fmul (a) (c))), .imm (iv (fmul (a) (e)) (fmul (c) (b)) (fmul (b) (e)) (fmul (a) (c))), .fin] (b4) 0 (fun _ => ics (fmul (a) (e)) (fmul (c) (b)) (fmul (b) (e)) (fmul (a) (c))) (by kernel_rfl) (by kernel_rfl) (fun β => ?_) (fun β w2 hD => ?_)
  · refine Obs.cons (Ob.load (b0) 0 (bl (a)) rfl rfl (by kernel_rfl) hr_b0 Tryd.underlying23 rfl (by rw [bl_length]; exact info32)) ?_
    refine Obs.cons (Ob.load (b3) 0 (bl (e)) rfl rfl (by kernel_rfl) hr_b3 Tryd.underlying23 rfl (by rw [bl_length]; exact info32)) ?_
    refine Obs.cons (Ob.call 12 #[bv (a), bv (e)] rfl (fun w => by kernel_rfl) (fun w hg => Mul_f (a) (e) ha he w)) ?_
    refine Obs.cons (Ob.load (b2) 0 (bl (c)) rfl rfl (by kernel_rfl) hr_b2 Tryd.underlying23 rfl (by rw [bl_length]; exact info32)) ?_
    refine Obs.cons (Ob.load (b1) 0 (bl (b)) rfl rfl (by kernel_rfl) hr_b1 Tryd.underlying23 rfl (by rw [bl_length]; exact info32)) ?_
    refine Obs.cons (Ob.call 12 #[bv (c), bv (b)] rfl (fun w => by kernel_rfl) (fun w hg => Mul_f (c) (b) hc hb w)) ?_
    refine Obs.cons (Ob.imm rfl (fun w => exec_build rfl (by kernel_rfl) (build_pt _ _ w))) ?_
    refine Obs.cons (Ob.load (b1) 0 (bl (b)) rfl rfl (by kernel_rfl) hr_b1 Tryd.underlying23 rfl (by rw [bl_length]; exact info32)) ?_
    refine Obs.cons (Ob.load (b3) 0 (bl (e)) rfl rfl (by kernel_rfl) hr_b3 Tryd.underlying23 rfl (by rw [bl_length]; exact info32)) ?_
    refine Obs.cons (Ob.call 12 #[bv (b), bv (e)] rfl (fun w => by kernel_rfl) (fun w hg => Mul_f (b) (e) hb he w)) ?_
    refine Obs.cons (Ob.load (b0) 0 (bl (a)) rfl rfl (by kernel_rfl) hr_b0 Tryd.underlying23 rfl (by rw [bl_length]; exact info32)) ?_
    refine Obs.cons (Ob.load (b2) 0 (bl (c)) rfl rfl (by kernel_rfl) hr_b2 Tryd.underlying23 rfl (by rw [bl_length]; exact info32)) ?_
    refine Obs.cons (Ob.call 12 #[bv (a), bv (c)] rfl (fun w => by kernel_rfl) (fun w hg => Mul_f (a) (c) ha hc w)) ?_
    refine Obs.cons (Ob.imm rfl (fun w => exec_build rfl (by kernel_rfl) (build_inn _ _ _ _ w))) ?_
    refine Obs.cons (Ob.fin rfl (by rw [ics_length]; exact ht_b4) rfl (by kernel_rfl) (by kernel_rfl) (by rw [ics_length]; exact infoI) (ics_one _ _ _ _)) ?_
    exact Obs.nil
  replace hr_b0 := rangeAt_grown hr_b0 hD.gr
  replace hr_b1 := rangeAt_grown hr_b1 hD.gr
  replace hr_b2 := rangeAt_grown hr_b2 hD.gr
  replace hr_b3 := rangeAt_grown hr_b3 hD.gr
  replace ht_b4 := there_grown ht_b4 hD.gr
  replace hW := grown_trans hW hD.gr
  clear hD
  simp only [finAct, putAll, valsFrom, Plan.value, Act.put, List.setIfInBounds_toArray, List.set_cons_zero, List.set_cons_succ]
  have hs2 := World.rangeAt_setCells_same w2 (b4) 0 (ics (fmul (a) (e)) (fmul (c) (b)) (fmul (b) (e)) (fmul (a) (c))) (by rw [ics_length]; exact ht_b4)
  replace hW := grown_setCells hf_b4 (ics (fmul (a) (e)) (fmul (c) (b)) (fmul (b) (e)) (fmul (a) (c))) 0 hW
  generalize w2.setCells (b4) 0 (ics (fmul (a) (e)) (fmul (c) (b)) (fmul (b) (e)) (fmul (a) (c))) = w2s at *
  repeat go_step
  refine bodyPost_ret (v := iv (fmul (a) (e)) (fmul (c) (b)) (fmul (b) (e)) (fmul (a) (c))) (result_cells Tryd.results97 _ _ (b4) _ ?hp hs2 Tryd.underlying93 rfl (by rw [ics_length]; exact infoI)) ?hd ?_
  case hp => rfl
  case hd => rfl
  exact ⟨rfl, hW⟩

set_option maxRecDepth 100000 in
set_option maxHeartbeats 2000000 in
theorem plain_num (x y z t : Nat) (hx : x < M) (hy : y < M) (hz : z < M) (w : World) (hGl0 : G0 w) :
    Calls Tryd.prog 78 #[iv x y z t] w fun ex w' => ex = .returned (pv (fmul x (inv z)) (fmul y (inv z))) ∧ Grown w w' := by
  have hW := Grown.refl w
  have hGl := hGl0
  go_enter Tryd.func78, Tryd.ntmps78
  repeat ((fail_if_success (with_reducible show Code.wp _ (Code.region _ _ _) _ _ _)); go_step)
  refine wp_plain [.box 93 (ics (x) (y) (z) (t)), .new 37 64] (by kernel_rfl) (fun β => ?_) (fun β w1 hD => ?_)
  · refine Obs.cons (Ob.box rfl rfl (by kernel_rfl)) ?_
    refine Obs.cons (Ob.new _ rfl rfl zeroP (by simp [pcs_length])) ?_
    exact Obs.nil
  obtain ⟨hf_b0, hr_b0⟩ := hD.bx 0 _ _ rfl
  replace hf_b0 := Nat.le_trans hW.2.2 hf_b0
  obtain ⟨hf_b1, ht_b1⟩ := hD.nw 1 _ _ rfl
  replace hf_b1 := Nat.le_trans hW.2.2 hf_b1
  replace hW := grown_trans hW hD.gr
  clear hD
  simp only [finAct, putAll, valsFrom, Plan.value, Act.put, List.setIfInBounds_toArray, List.set_cons_zero, List.set_cons_succ]
  replace hGl := hGl0.grown hW
  generalize β 0 = b0 at *
  generalize β (0 + 1) = b1 at *
  have hr_b0x : w1.rangeAt b0 0 (bl (x)) := rangeAt_left hr_b0
  have hr_b0r := rangeAt_right 32 (bl_length _) hr_b0
  have hr_b0y : w1.rangeAt b0 32 (bl (y)) := rangeAt_left hr_b0r
  have hr_b0s := rangeAt_right 32 (bl_length _) hr_b0r
  have hr_b0z : w1.rangeAt b0 64 (bl (z)) := rangeAt_left hr_b0s
  have hr_b0w : w1.rangeAt b0 96 (bl (t)) := rangeAt_right 32 (bl_length _) hr_b0s
  clear hr_b0r hr_b0s
  have hr_b0p : w1.rangeAt b0 0 (pcs (x) (y)) := rangeAt_point hr_b0
  repeat ((fail_if_success (with_reducible show Code.wp _ (Code.region _ _ _) _ _ _)); go_step)
  refine wp_plain [.imm (.pointer (some ⟨b0, 64, none⟩)), .val (bv (z)), .val (bv (inv (z))), .new 23 32, .put 3 3 (fun _ => bl (inv (z)))] (by kernel_rfl) (fun β => ?_) (fun β w2 hD => ?_)
  · refine Obs.cons (Ob.imm rfl (fun w => by kernel_rfl)) ?_
    refine Obs.cons (Ob.load (b0) 64 (bl (z)) rfl rfl (by kernel_rfl) hr_b0z Tryd.underlying23 rfl (by rw [bl_length]; exact info32)) ?_
    refine Obs.cons (Ob.call 11 #[bv (z)] rfl (fun w => by kernel_rfl) (fun w hg => Invert_any (z) hz w (hGl.grown hg).g0.pw)) ?_
    refine Obs.cons (Ob.new _ rfl rfl zero32.1 (by simp [bl_length])) ?_
    refine Obs.cons (Ob.put 23 rfl rfl rfl (by kernel_rfl) (by kernel_rfl) (by rw [bl_length]; exact info32) (bl_one _)) ?_
    exact Obs.nil
  replace hr_b0 := rangeAt_grown hr_b0 hD.gr
  replace hr_b0x := rangeAt_grown hr_b0x hD.gr
  replace hr_b0y := rangeAt_grown hr_b0y hD.gr
  replace hr_b0z := rangeAt_grown hr_b0z hD.gr
  replace hr_b0w := rangeAt_grown hr_b0w hD.gr
  replace hr_b0p := rangeAt_grown hr_b0p hD.gr
  replace ht_b1 := there_grown ht_b1 hD.gr
  obtain ⟨hf_b2, ht_b2⟩ := hD.nw 3 _ _ rfl
  have hr_b2 : w2.rangeAt (β 3) 0 (bl (inv (z))) := hD.rg 4 3 3 (fun _ => bl (inv (z))) rfl
  replace hf_b2 := Nat.le_trans hW.2.2 hf_b2
  replace hW := grown_trans hW hD.gr
  clear hD
  simp only [finAct, putAll, valsFrom, Plan.value, Act.put, List.setIfInBounds_toArray, List.set_cons_zero, List.set_cons_succ]
  replace hGl := hGl0.grown hW
  generalize β (0 + 1 + 1 + 1) = b2 at *
  repeat ((fail_if_success (with_reducible show Code.wp _ (Code.region _ _ _) _ _ _)); go_step)
  replace hr_b0 := rangeAt_grown hr_b0 (gdrew w2)
  replace hr_b0x := rangeAt_grown hr_b0x (gdrew w2)
  replace hr_b0y := rangeAt_grown hr_b0y (gdrew w2)
  replace hr_b0z := rangeAt_grown hr_b0z (gdrew w2)
  replace hr_b0w := rangeAt_grown hr_b0w (gdrew w2)
  replace hr_b0p := rangeAt_grown hr_b0p (gdrew w2)
  replace hr_b2 := rangeAt_grown hr_b2 (gdrew w2)
  replace ht_b1 := there_grown ht_b1 (gdrew w2)
  replace ht_b2 := there_grown ht_b2 (gdrew w2)
  replace hW := grown_trans hW (gdrew w2)
  replace hGl := hGl0.grown hW
  refine wp_loose_fin [.imm (.pointer (some ⟨b0, 0, none⟩)), .imm (.pointer (some ⟨b0, 0, none⟩)), .val (bv (x)), .val (bv (inv (z))), .val (bv (fmul (x) (inv (z)))), .imm (.pointer (some ⟨b0, 0, none⟩)), .imm (.pointer (some ⟨b0, 32, none⟩)), .val (bv (y)), .val (bv (inv (z))), .val (bv (fmul (y) (inv (z)))), .imm (pv (fmul (x) (inv (z))) (fmul (y) (inv (z)))), .fin] (b1) 0 (fun _ => pcs (fmul (x) (inv (z))) (fmul (y) (inv (z)))) (by kernel_rfl) (by kernel_rfl) (fun β => ?_) (fun β w3 hD => ?_)
  · refine Obs.cons (Ob.imm rfl (fun w => by kernel_rfl)) ?_
    refine Obs.cons (Ob.imm rfl (fun w => by kernel_rfl)) ?_
    refine Obs.cons (Ob.load (b0) 0 (bl (x)) rfl rfl (by kernel_rfl) hr_b0x Tryd.underlying23 rfl (by rw [bl_length]; exact info32)) ?_
    refine Obs.cons (Ob.load (b2) 0 (bl (inv (z))) rfl rfl (by kernel_rfl) hr_b2 Tryd.underlying23 rfl (by rw [bl_length]; exact info32)) ?_
    refine Obs.cons (Ob.call 12 #[bv (x), bv (inv (z))] rfl (fun w => by kernel_rfl) (fun w hg => Mul_f (x) (inv (z)) hx (finv_lt _) w)) ?_
    refine Obs.cons (Ob.imm rfl (fun w => by kernel_rfl)) ?_
    refine Obs.cons (Ob.imm rfl (fun w => by kernel_rfl)) ?_
    refine Obs.cons (Ob.load (b0) 32 (bl (y)) rfl rfl (by kernel_rfl) hr_b0y Tryd.underlying23 rfl (by rw [bl_length]; exact info32)) ?_
    refine Obs.cons (Ob.load (b2) 0 (bl (inv (z))) rfl rfl (by kernel_rfl) hr_b2 Tryd.underlying23 rfl (by rw [bl_length]; exact info32)) ?_
    refine Obs.cons (Ob.call 12 #[bv (y), bv (inv (z))] rfl (fun w => by kernel_rfl) (fun w hg => Mul_f (y) (inv (z)) hy (finv_lt _) w)) ?_
    refine Obs.cons (Ob.imm rfl (fun w => exec_build rfl (by kernel_rfl) (build_pt _ _ w))) ?_
    refine Obs.cons (Ob.fin rfl (by rw [pcs_length]; exact ht_b1) rfl (by kernel_rfl) (by kernel_rfl) (by rw [pcs_length]; exact infoP) (pcs_one _ _)) ?_
    exact Obs.nil
  replace hr_b0 := rangeAt_grown hr_b0 hD.gr
  replace hr_b0x := rangeAt_grown hr_b0x hD.gr
  replace hr_b0y := rangeAt_grown hr_b0y hD.gr
  replace hr_b0z := rangeAt_grown hr_b0z hD.gr
  replace hr_b0w := rangeAt_grown hr_b0w hD.gr
  replace hr_b0p := rangeAt_grown hr_b0p hD.gr
  replace hr_b2 := rangeAt_grown hr_b2 hD.gr
  replace ht_b1 := there_grown ht_b1 hD.gr
  replace ht_b2 := there_grown ht_b2 hD.gr
  replace hW := grown_trans hW hD.gr
  clear hD
  simp only [finAct, putAll, valsFrom, Plan.value, Act.put, List.setIfInBounds_toArray, List.set_cons_zero, List.set_cons_succ]
  replace hGl := hGl0.grown hW
  have hs3 := World.rangeAt_setCells_same w3 (b1) 0 (pcs (fmul (x) (inv (z))) (fmul (y) (inv (z)))) (by rw [pcs_length]; exact ht_b1)
  replace hW := grown_setCells hf_b1 (pcs (fmul (x) (inv (z))) (fmul (y) (inv (z)))) 0 hW
  generalize w3.setCells (b1) 0 (pcs (fmul (x) (inv (z))) (fmul (y) (inv (z)))) = w3s at *
  repeat go_step
  refine bodyPost_ret (v := pv (fmul (x) (inv (z))) (fmul (y) (inv (z)))) (result_cells Tryd.results78 _ _ (b1) _ ?hp hs3 Tryd.underlying37 rfl (by rw [pcs_length]; exact infoP)) ?hd ?_
  case hp => rfl
  case hd => rfl
  exact ⟨rfl, hW⟩

end Go.Proofs.YtoimglbjepppmaaDoor

namespace Go.Proofs.YtoimglbjepppmaaDoor
open Go.RowKit Go.Shelf FieldNum

set_option maxRecDepth 100000 in
set_option maxHeartbeats 2000000 in
theorem doubled_num (x y z t : Nat) (hx : x < M) (hy : y < M) (hz : z < M) (w : World) :
    Calls Tryd.prog 77 #[iv x y z t] w fun ex w' => ex = .returned (iv (fmul (sb (fmul (fadd (x) (y)) (fadd (x) (y))) (fadd (fmul (x) (x)) (fmul (y) (y)))) (sb (fadd (fmul (z) (z)) (fmul (z) (z))) (sb (fmul (y) (y)) (fmul (x) (x))))) (fmul (fadd (fmul (x) (x)) (fmul (y) (y))) (sb (fmul (y) (y)) (fmul (x) (x)))) (fmul (sb (fmul (y) (y)) (fmul (x) (x))) (sb (fadd (fmul (z) (z)) (fmul (z) (z))) (sb (fmul (y) (y)) (fmul (x) (x))))) (fmul (sb (fmul (fadd (x) (y)) (fadd (x) (y))) (fadd (fmul (x) (x)) (fmul (y) (y)))) (fadd (fmul (x) (x)) (fmul (y) (y))))) ∧ Grown w w' := by
  have hW := Grown.refl w
  go_enter Tryd.func77, Tryd.ntmps77
  repeat ((fail_if_success (with_reducible show Code.wp _ (Code.region _ _ _) _ _ _)); go_step)
  refine wp_plain [.box 93 (ics (x) (y) (z) (t)), .new 93 128] (by kernel_rfl) (fun β => ?_) (fun β w1 hD => ?_)
  · refine Obs.cons (Ob.box rfl rfl (by kernel_rfl)) ?_
    refine Obs.cons (Ob.new _ rfl rfl zeroI (by simp [ics_length])) ?_
    exact Obs.nil
  obtain ⟨hf_b0, hr_b0⟩ := hD.bx 0 _ _ rfl
  replace hf_b0 := Nat.le_trans hW.2.2 hf_b0
  obtain ⟨hf_b1, ht_b1⟩ := hD.nw 1 _ _ rfl
  replace hf_b1 := Nat.le_trans hW.2.2 hf_b1
  replace hW := grown_trans hW hD.gr
  clear hD
  simp only [finAct, putAll, valsFrom, Plan.value, Act.put, List.setIfInBounds_toArray, List.set_cons_zero, List.set_cons_succ]
  generalize β 0 = b0 at *
  generalize β (0 + 1) = b1 at *
  have hr_b0x : w1.rangeAt b0 0 (bl (x)) := rangeAt_left hr_b0
  have hr_b0r := rangeAt_right 32 (bl_length _) hr_b0
  have hr_b0y : w1.rangeAt b0 32 (bl (y)) := rangeAt_left hr_b0r
  have hr_b0s := rangeAt_right 32 (bl_length _) hr_b0r
  have hr_b0z : w1.rangeAt b0 64 (bl (z)) := rangeAt_left hr_b0s
  have hr_b0w : w1.rangeAt b0 96 (bl (t)) := rangeAt_right 32 (bl_length _) hr_b0s
  clear hr_b0r hr_b0s
  have hr_b0p : w1.rangeAt b0 0 (pcs (x) (y)) := rangeAt_point hr_b0
  repeat ((fail_if_success (with_reducible show Code.wp _ (Code.region _ _ _) _ _ _)); go_step)
  replace hr_b0 := rangeAt_grown hr_b0 (gdrew w1)
  replace hr_b0x := rangeAt_grown hr_b0x (gdrew w1)
  replace hr_b0y := rangeAt_grown hr_b0y (gdrew w1)
  replace hr_b0z := rangeAt_grown hr_b0z (gdrew w1)
  replace hr_b0w := rangeAt_grown hr_b0w (gdrew w1)
  replace hr_b0p := rangeAt_grown hr_b0p (gdrew w1)
  replace ht_b1 := there_grown ht_b1 (gdrew w1)
  replace hW := grown_trans hW (gdrew w1)
  refine wp_loose [.imm (.pointer (some ⟨b0, 0, none⟩)), .imm (.pointer (some ⟨b0, 0, none⟩)), .val (bv (x)), .val (bv (fmul (x) (x))), .imm (.pointer (some ⟨b0, 0, none⟩)), .imm (.pointer (some ⟨b0, 32, none⟩)), .val (bv (y)), .val (bv (fmul (y) (y))), .imm (.pointer (some ⟨b0, 64, none⟩)), .val (bv (z)), .val (bv (fmul (z) (z))), .new 23 32, .new 23 32, .new 23 32, .put 11 11 (fun _ => bl (fmul (x) (x))), .put 12 12 (fun _ => bl (fmul (y) (y))), .put 13 13 (fun _ => bl (fmul (z) (z)))] (by kernel_rfl) (by kernel_rfl) (fun β => ?_) (fun β w2 hD => ?_)
  · refine Obs.cons (Ob.imm rfl (fun w => by kernel_rfl)) ?_
    refine Obs.cons (Ob.imm rfl (fun w => by kernel_rfl)) ?_
    refine Obs.cons (Ob.load (b0) 0 (bl (x)) rfl rfl (by kernel_rfl) hr_b0x Tryd.underlying23 rfl (by rw [bl_length]; exact info32)) ?_
    refine Obs.cons (Ob.call 17 #[bv (x)] rfl (fun w => by kernel_rfl) (fun w hg => Square_f (x) hx w)) ?_
    refine Obs.cons (Ob.imm rfl (fun w => by kernel_rfl)) ?_
    refine Obs.cons (Ob.imm rfl (fun w => by kernel_rfl)) ?_
    refine Obs.cons (Ob.load (b0) 32 (bl (y)) rfl rfl (by kernel_rfl) hr_b0y Tryd.underlying23 rfl (by rw [bl_length]; exact info32)) ?_
    refine Obs.cons (Ob.call 17 #[bv (y)] rfl (fun w => by kernel_rfl) (fun w hg => Square_f (y) hy w)) ?_
    refine Obs.cons (Ob.imm rfl (fun w => by kernel_rfl)) ?_
    refine Obs.cons (Ob.load (b0) 64 (bl (z)) rfl rfl (by kernel_rfl) hr_b0z Tryd.underlying23 rfl (by rw [bl_length]; exact info32)) ?_
    refine Obs.cons (Ob.call 17 #[bv (z)] rfl (fun w => by kernel_rfl) (fun w hg => Square_f (z) hz w)) ?_
    refine Obs.cons (Ob.new _ rfl rfl zero32.1 (by simp [bl_length])) ?_
    refine Obs.cons (Ob.new _ rfl rfl zero32.1 (by simp [bl_length])) ?_
    refine Obs.cons (Ob.new _ rfl rfl zero32.1 (by simp [bl_length])) ?_
    refine Obs.cons (Ob.put 23 rfl rfl rfl (by kernel_rfl) (by kernel_rfl) (by rw [bl_length]; exact info32) (bl_one _)) ?_
    refine Obs.cons (Ob.put 23 rfl rfl rfl (by kernel_rfl) (by kernel_rfl) (by rw [bl_length]; exact info32) (bl_one _)) ?_
    refine Obs.cons (Ob.put 23 rfl rfl rfl (by kernel_rfl) (by kernel_rfl) (by rw [bl_length]; exact info32) (bl_one _)) ?_
    exact Obs.nil
  replace hr_b0 := rangeAt_grown hr_b0 hD.gr
  replace hr_b0x := rangeAt_grown hr_b0x hD.gr
  replace hr_b0y := rangeAt_grown hr_b0y hD.gr
  replace hr_b0z := rangeAt_grown hr_b0z hD.gr
  replace hr_b0w := rangeAt_grown hr_b0w hD.gr
  replace hr_b0p := rangeAt_grown hr_b0p hD.gr
  replace ht_b1 := there_grown ht_b1 hD.gr
  obtain ⟨hf_b2, ht_b2⟩ := hD.nw 11 _ _ rfl
  have hr_b2 : w2.rangeAt (β 11) 0 (bl (fmul (x) (x))) := hD.rg 14 11 11 (fun _ => bl (fmul (x) (x))) rfl
  replace hf_b2 := Nat.le_trans hW.2.2 hf_b2
  obtain ⟨hf_b3, ht_b3⟩ := hD.nw 12 _ _ rfl
  have hr_b3 : w2.rangeAt (β 12) 0 (bl (fmul (y) (y))) := hD.rg 15 12 12 (fun _ => bl (fmul (y) (y))) rfl
  replace hf_b3 := Nat.le_trans hW.2.2 hf_b3
  obtain ⟨hf_b4, ht_b4⟩ := hD.nw 13 _ _ rfl
  have hr_b4 : w2.rangeAt (β 13) 0 (bl (fmul (z) (z))) := hD.rg 16 13 13 (fun _ => bl (fmul (z) (z))) rfl
  replace hf_b4 := Nat.le_trans hW.2.2 hf_b4
  replace hW := grown_trans hW hD.gr
  clear hD
  simp only [finAct, putAll, valsFrom, Plan.value, Act.put, List.setIfInBounds_toArray, List.set_cons_zero, List.set_cons_succ]
  generalize β (0 + 1 + 1 + 1 + 1 + 1 + 1 + 1 + 1 + 1 + 1 + 1) = b2 at *
  generalize β (0 + 1 + 1 + 1 + 1 + 1 + 1 + 1 + 1 + 1 + 1 + 1 + 1) = b3 at *
  generalize β (0 + 1 + 1 + 1 + 1 + 1 + 1 + 1 + 1 + 1 + 1 + 1 + 1 + 1) = b4 at *
  repeat ((fail_if_success (with_reducible show Code.wp _ (Code.region _ _ _) _ _ _)); go_step)
  refine wp_plain [.val (bv (fmul (x) (x))), .val (bv (fmul (y) (y))), .val (bv (fadd (fmul (x) (x)) (fmul (y) (y)))), .new 23 32, .put 3 3 (fun _ => bl (fadd (fmul (x) (x)) (fmul (y) (y))))] (by kernel_rfl) (fun β => ?_) (fun β w3 hD => ?_)
  · refine Obs.cons (Ob.load (b2) 0 (bl (fmul (x) (x))) rfl rfl (by kernel_rfl) hr_b2 Tryd.underlying23 rfl (by rw [bl_length]; exact info32)) ?_
    refine Obs.cons (Ob.load (b3) 0 (bl (fmul (y) (y))) rfl rfl (by kernel_rfl) hr_b3 Tryd.underlying23 rfl (by rw [bl_length]; exact info32)) ?_
    refine Obs.cons (Ob.call 19 #[bv (fmul (x) (x)), bv (fmul (y) (y))] rfl (fun w => by kernel_rfl) (fun w hg => Add_f (fmul (x) (x)) (fmul (y) (y)) (fmul_lt _ _) (fmul_lt _ _) w)) ?_
    refine Obs.cons (Ob.new _ rfl rfl zero32.1 (by simp [bl_length])) ?_
    refine Obs.cons (Ob.put 23 rfl rfl rfl (by kernel_rfl) (by kernel_rfl) (by rw [bl_length]; exact info32) (bl_one _)) ?_
    exact Obs.nil
  replace hr_b0 := rangeAt_grown hr_b0 hD.gr
  replace hr_b0x := rangeAt_grown hr_b0x hD.gr
  replace hr_b0y := rangeAt_grown hr_b0y hD.gr
  replace hr_b0z := rangeAt_grown hr_b0z hD.gr
  replace hr_b0w := rangeAt_grown hr_b0w hD.gr
  replace hr_b0p := rangeAt_grown hr_b0p hD.gr
  replace hr_b2 := rangeAt_grown hr_b2 hD.gr
  replace hr_b3 := rangeAt_grown hr_b3 hD.gr
  replace hr_b4 := rangeAt_grown hr_b4 hD.gr
  replace ht_b1 := there_grown ht_b1 hD.gr
  replace ht_b2 := there_grown ht_b2 hD.gr
  replace ht_b3 := there_grown ht_b3 hD.gr
  replace ht_b4 := there_grown ht_b4 hD.gr
  obtain ⟨hf_b5, ht_b5⟩ := hD.nw 3 _ _ rfl
  have hr_b5 : w3.rangeAt (β 3) 0 (bl (fadd (fmul (x) (x)) (fmul (y) (y)))) := hD.rg 4 3 3 (fun _ => bl (fadd (fmul (x) (x)) (fmul (y) (y)))) rfl
  replace hf_b5 := Nat.le_trans hW.2.2 hf_b5
  replace hW := grown_trans hW hD.gr
  clear hD
  simp only [finAct, putAll, valsFrom, Plan.value, Act.put, List.setIfInBounds_toArray, List.set_cons_zero, List.set_cons_succ]
  generalize β (0 + 1 + 1 + 1) = b5 at *
  repeat ((fail_if_success (with_reducible show Code.wp _ (Code.region _ _ _) _ _ _)); go_step)
  replace hr_b0 := rangeAt_grown hr_b0 (gdrew w3)
  replace hr_b0x := rangeAt_grown hr_b0x (gdrew w3)
  replace hr_b0y := rangeAt_grown hr_b0y (gdrew w3)
  replace hr_b0z := rangeAt_grown hr_b0z (gdrew w3)
  replace hr_b0w := rangeAt_grown hr_b0w (gdrew w3)
  replace hr_b0p := rangeAt_grown hr_b0p (gdrew w3)
  replace hr_b2 := rangeAt_grown hr_b2 (gdrew w3)
  replace hr_b3 := rangeAt_grown hr_b3 (gdrew w3)
  replace hr_b4 := rangeAt_grown hr_b4 (gdrew w3)
  replace hr_b5 := rangeAt_grown hr_b5 (gdrew w3)
  replace ht_b1 := there_grown ht_b1 (gdrew w3)
  replace ht_b2 := there_grown ht_b2 (gdrew w3)
  replace ht_b3 := there_grown ht_b3 (gdrew w3)
  replace ht_b4 := there_grown ht_b4 (gdrew w3)
  replace ht_b5 := there_grown ht_b5 (gdrew w3)
  replace hW := grown_trans hW (gdrew w3)
  refine wp_loose [.imm (.pointer (some ⟨b0, 0, none⟩)), .imm (.pointer (some ⟨b0, 0, none⟩)), .val (bv (x)), .imm (.pointer (some ⟨b0, 0, none⟩)), .imm (.pointer (some ⟨b0, 32, none⟩)), .val (bv (y)), .val (bv (fadd (x) (y))), .val (bv (fmul (fadd (x) (y)) (fadd (x) (y)))), .val (bv (fadd (fmul (x) (x)) (fmul (y) (y)))), .val (bv (sb (fmul (fadd (x) (y)) (fadd (x) (y))) (fadd (fmul (x) (x)) (fmul (y) (y))))), .new 23 32, .put 10 10 (fun _ => bl (sb (fmul (fadd (x) (y)) (fadd (x) (y))) (fadd (fmul (x) (x)) (fmul (y) (y)))))] (by kernel_rfl) (by kernel_rfl) (fun β => ?_) (fun β w4 hD => ?_)
  · refine Obs.cons (Ob.imm rfl (fun w => by kernel_rfl)) ?_
    refine Obs.cons (Ob.imm rfl (fun w => by kernel_rfl)) ?_
    refine Obs.cons (Ob.load (b0) 0 (bl (x)) rfl rfl (by kernel_rfl) hr_b0x Tryd.underlying23 rfl (by rw [bl_length]; exact info32)) ?_
    refine Obs.cons (Ob.imm rfl (fun w => by kernel_rfl)) ?_
    refine Obs.cons (Ob.imm rfl (fun w => by kernel_rfl)) ?_
    refine Obs.cons (Ob.load (b0) 32 (bl (y)) rfl rfl (by kernel_rfl) hr_b0y Tryd.underlying23 rfl (by rw [bl_length]; exact info32)) ?_
    refine Obs.cons (Ob.call 19 #[bv (x), bv (y)] rfl (fun w => by kernel_rfl) (fun w hg => Add_f (x) (y) hx hy w)) ?_
    refine Obs.cons (Ob.call 17 #[bv (fadd (x) (y))] rfl (fun w => by kernel_rfl) (fun w hg => Square_f (fadd (x) (y)) (fadd_lt _ _) w)) ?_
    refine Obs.cons (Ob.load (b5) 0 (bl (fadd (fmul (x) (x)) (fmul (y) (y)))) rfl rfl (by kernel_rfl) hr_b5 Tryd.underlying23 rfl (by rw [bl_length]; exact info32)) ?_
    refine Obs.cons (Ob.call 29 #[bv (fmul (fadd (x) (y)) (fadd (x) (y))), bv (fadd (fmul (x) (x)) (fmul (y) (y)))] rfl (fun w => by kernel_rfl) (fun w hg => Sub_any (fmul (fadd (x) (y)) (fadd (x) (y))) (fadd (fmul (x) (x)) (fmul (y) (y))) (fmul_lt _ _) (fadd_lt _ _) w)) ?_
    refine Obs.cons (Ob.new _ rfl rfl zero32.1 (by simp [bl_length])) ?_
    refine Obs.cons (Ob.put 23 rfl rfl rfl (by kernel_rfl) (by kernel_rfl) (by rw [bl_length]; exact info32) (bl_one _)) ?_
    exact Obs.nil
  replace hr_b0 := rangeAt_grown hr_b0 hD.gr
  replace hr_b0x := rangeAt_grown hr_b0x hD.gr
  replace hr_b0y := rangeAt_grown hr_b0y hD.gr
  replace hr_b0z := rangeAt_grown hr_b0z hD.gr
  replace hr_b0w := rangeAt_grown hr_b0w hD.gr
  replace hr_b0p := rangeAt_grown hr_b0p hD.gr
  replace hr_b2 := rangeAt_grown hr_b2 hD.gr
  replace hr_b3 := rangeAt_grown hr_b3 hD.gr
  replace hr_b4 := rangeAt_grown hr_b4 hD.gr
  replace hr_b5 := rangeAt_grown hr_b5 hD.gr
  replace ht_b1 := there_grown ht_b1 hD.gr
  replace ht_b2 := there_grown ht_b2 hD.gr
  replace ht_b3 := there_grown ht_b3 hD.gr
  replace ht_b4 := there_grown ht_b4 hD.gr
  replace ht_b5 := there_grown ht_b5 hD.gr
  obtain ⟨hf_b6, ht_b6⟩ := hD.nw 10 _ _ rfl
  have hr_b6 : w4.rangeAt (β 10) 0 (bl (sb (fmul (fadd (x) (y)) (fadd (x) (y))) (fadd (fmul (x) (x)) (fmul (y) (y))))) := hD.rg 11 10 10 (fun _ => bl (sb (fmul (fadd (x) (y)) (fadd (x) (y))) (fadd (fmul (x) (x)) (fmul (y) (y))))) rfl
  replace hf_b6 := Nat.le_trans hW.2.2 hf_b6
  replace hW := grown_trans hW hD.gr
  clear hD
  simp only [finAct, putAll, valsFrom, Plan.value, Act.put, List.setIfInBounds_toArray, List.set_cons_zero, List.set_cons_succ]
  generalize β (0 + 1 + 1 + 1 + 1 + 1 + 1 + 1 + 1 + 1 + 1) = b6 at *
  repeat ((fail_if_success (with_reducible show Code.wp _ (Code.region _ _ _) _ _ _)); go_step)
  refine wp_plain [.val (bv (fmul (y) (y))), .val (bv (fmul (x) (x))), .val (bv (sb (fmul (y) (y)) (fmul (x) (x)))), .new 23 32, .put 3 3 (fun _ => bl (sb (fmul (y) (y)) (fmul (x) (x))))] (by kernel_rfl) (fun β => ?_) (fun β w5 hD => ?_)
  · refine Obs.cons (Ob.load (b3) 0 (bl (fmul (y) (y))) rfl rfl (by kernel_rfl) hr_b3 Tryd.underlying23 rfl (by rw [bl_length]; exact info32)) ?_
    refine Obs.cons (Ob.load (b2) 0 (bl (fmul (x) (x))) rfl rfl (by kernel_rfl) hr_b2 Tryd.underlying23 rfl (by rw [bl_length]; exact info32)) ?_
    refine Obs.cons (Ob.call 29 #[bv (fmul (y) (y)), bv (fmul (x) (x))] rfl (fun w => by kernel_rfl) (fun w hg => Sub_any (fmul (y) (y)) (fmul (x) (x)) (fmul_lt _ _) (fmul_lt _ _) w)) ?_
    refine Obs.cons (Ob.new _ rfl rfl zero32.1 (by simp [bl_length])) ?_
    refine Obs.cons (Ob.put 23 rfl rfl rfl (by kernel_rfl) (by kernel_rfl) (by rw [bl_length]; exact info32) (bl_one _)) ?_
    exact Obs.nil
  replace hr_b0 := rangeAt_grown hr_b0 hD.gr
  replace hr_b0x := rangeAt_grown hr_b0x hD.gr
  replace hr_b0y := rangeAt_grown hr_b0y hD.gr
  replace hr_b0z := rangeAt_grown hr_b0z hD.gr
  replace hr_b0w := rangeAt_grown hr_b0w hD.gr
  replace hr_b0p := rangeAt_grown hr_b0p hD.gr
  replace hr_b2 := rangeAt_grown hr_b2 hD.gr
  replace hr_b3 := rangeAt_grown hr_b3 hD.gr
  replace hr_b4 := rangeAt_grown hr_b4 hD.gr
  replace hr_b5 := rangeAt_grown hr_b5 hD.gr
  replace hr_b6 := rangeAt_grown hr_b6 hD.gr
  replace ht_b1 := there_grown ht_b1 hD.gr
  replace ht_b2 := there_grown ht_b2 hD.gr
  replace ht_b3 := there_grown ht_b3 hD.gr
  replace ht_b4 := there_grown ht_b4 hD.gr
  replace ht_b5 := there_grown ht_b5 hD.gr
  replace ht_b6 := there_grown ht_b6 hD.gr
  obtain ⟨hf_b7, ht_b7⟩ := hD.nw 3 _ _ rfl
  have hr_b7 : w5.rangeAt (β 3) 0 (bl (sb (fmul (y) (y)) (fmul (x) (x)))) := hD.rg 4 3 3 (fun _ => bl (sb (fmul (y) (y)) (fmul (x) (x)))) rfl
  replace hf_b7 := Nat.le_trans hW.2.2 hf_b7
  replace hW := grown_trans hW hD.gr
  clear hD
  simp only [finAct, putAll, valsFrom, Plan.value, Act.put, List.setIfInBounds_toArray, List.set_cons_zero, List.set_cons_succ]
  generalize β (0 + 1 + 1 + 1) = b7 at *
  repeat ((fail_if_success (with_reducible show Code.wp _ (Code.region _ _ _) _ _ _)); go_step)
  replace hr_b0 := rangeAt_grown hr_b0 (gdrew w5)
  replace hr_b0x := rangeAt_grown hr_b0x (gdrew w5)
  replace hr_b0y := rangeAt_grown hr_b0y (gdrew w5)
  replace hr_b0z := rangeAt_grown hr_b0z (gdrew w5)
  replace hr_b0w := rangeAt_grown hr_b0w (gdrew w5)
  replace hr_b0p := rangeAt_grown hr_b0p (gdrew w5)
  replace hr_b2 := rangeAt_grown hr_b2 (gdrew w5)
  replace hr_b3 := rangeAt_grown hr_b3 (gdrew w5)
  replace hr_b4 := rangeAt_grown hr_b4 (gdrew w5)
  replace hr_b5 := rangeAt_grown hr_b5 (gdrew w5)
  replace hr_b6 := rangeAt_grown hr_b6 (gdrew w5)
  replace hr_b7 := rangeAt_grown hr_b7 (gdrew w5)
  replace ht_b1 := there_grown ht_b1 (gdrew w5)
  replace ht_b2 := there_grown ht_b2 (gdrew w5)
  replace ht_b3 := there_grown ht_b3 (gdrew w5)
  replace ht_b4 := there_grown ht_b4 (gdrew w5)
  replace ht_b5 := there_grown ht_b5 (gdrew w5)
  replace ht_b6 := there_grown ht_b6 (gdrew w5)
  replace ht_b7 := there_grown ht_b7 (gdrew w5)
  replace hW := grown_trans hW (gdrew w5)
  refine wp_loose_fin [.val (bv (sb (fmul (fadd (x) (y)) (fadd (x) (y))) (fadd (fmul (x) (x)) (fmul (y) (y))))), .val (bv (sb (fmul (y) (y)) (fmul (x) (x)))), .val (bv (fadd (fmul (x) (x)) (fmul (y) (y)))), .val (bv (fmul (z) (z))), .val (bv (fmul (z) (z))), .val (bv (fadd (fmul (z) (z)) (fmul (z) (z)))), .val (bv (sb (fmul (y) (y)) (fmul (x) (x)))), .val (bv (sb (fadd (fmul (z) (z)) (fmul (z) (z))) (sb (fmul (y) (y)) (fmul (x) (x))))), .val (iv (fmul (sb (fmul (fadd (x) (y)) (fadd (x) (y))) (fadd (fmul (x) (x)) (fmul (y) (y)))) (sb (fadd (fmul (z) (z)) (fmul (z) (z))) (sb (fmul (y) (y)) (fmul (x) (x))))) (fmul (fadd (fmul (x) (x)) (fmul (y) (y))) (sb (fmul (y) (y)) (fmul (x) (x)))) (fmul (sb (fmul (y) (y)) (fmul (x) (x))) (sb (fadd (fmul (z) (z)) (fmul (z) (z))) (sb (fmul (y) (y)) (fmul (x) (x))))) (fmul (sb (fmul (fadd (x) (y)) (fadd (x) (y))) (fadd (fmul (x) (x)) (fmul (y) (y)))) (fadd (fmul (x) (x)) (fmul (y) (y))))), .fin] (b1) 0 (fun _ => ics (fmul (sb (fmul (fadd (x) (y)) (fadd (x) (y))) (fadd (fmul (x) (x)) (fmul (y) (y)))) (sb (fadd (fmul (z) (z)) (fmul (z) (z))) (sb (fmul (y) (y)) (fmul (x) (x))))) (fmul (fadd (fmul (x) (x)) (fmul (y) (y))) (sb (fmul (y) (y)) (fmul (x) (x)))) (fmul (sb (fmul (y) (y)) (fmul (x) (x))) (sb (fadd (fmul (z) (z)) (fmul (z) (z))) (sb (fmul (y) (y)) (fmul (x) (x))))) (fmul (sb (fmul (fadd (x) (y)) (fadd (x) (y))) (fadd (fmul (x) (x)) (fmul (y) (y)))) (fadd (fmul (x) (x)) (fmul (y) (y))))) (by kernel_rfl) (by kernel_rfl) (fun β => ?_) (fun β w6 hD => ?_)
  · refine Obs.cons (Ob.load (b6) 0 (bl (sb (fmul (fadd (x) (y)) (fadd (x) (y))) (fadd (fmul (x) (x)) (fmul (y) (y))))) rfl rfl (by kernel_rfl) hr_b6 Tryd.underlying23 rfl (by rw [bl_length]; exact info32)) ?_
    refine Obs.cons (Ob.load (b7) 0 (bl (sb (fmul (y) (y)) (fmul (x) (x)))) rfl rfl (by kernel_rfl) hr_b7 Tryd.underlying23 rfl (by rw [bl_length]; exact info32)) ?_
    refine Obs.cons (Ob.load (b5) 0 (bl (fadd (fmul (x) (x)) (fmul (y) (y)))) rfl rfl (by kernel_rfl) hr_b5 Tryd.underlying23 rfl (by rw [bl_length]; exact info32)) ?_
    refine Obs.cons (Ob.load (b4) 0 (bl (fmul (z) (z))) rfl rfl (by kernel_rfl) hr_b4 Tryd.underlying23 rfl (by rw [bl_length]; exact info32)) ?_
    refine Obs.cons (Ob.load (b4) 0 (bl (fmul (z) (z))) rfl rfl (by kernel_rfl) hr_b4 Tryd.underlying23 rfl (by rw [bl_length]; exact info32)) ?_
    refine Obs.cons (Ob.call 19 #[bv (fmul (z) (z)), bv (fmul (z) (z))] rfl (fun w => by kernel_rfl) (fun w hg => Add_f (fmul (z) (z)) (fmul (z) (z)) (fmul_lt _ _) (fmul_lt _ _) w)) ?_
    refine Obs.cons (Ob.load (b7) 0 (bl (sb (fmul (y) (y)) (fmul (x) (x)))) rfl rfl (by kernel_rfl) hr_b7 Tryd.underlying23 rfl (by rw [bl_length]; exact info32)) ?_
    refine Obs.cons (Ob.call 29 #[bv (fadd (fmul (z) (z)) (fmul (z) (z))), bv (sb (fmul (y) (y)) (fmul (x) (x)))] rfl (fun w => by kernel_rfl) (fun w hg => Sub_any (fadd (fmul (z) (z)) (fmul (z) (z))) (sb (fmul (y) (y)) (fmul (x) (x))) (fadd_lt _ _) (fsb_lt _ _) w)) ?_
    refine Obs.cons (Ob.call 97 #[bv (sb (fmul (fadd (x) (y)) (fadd (x) (y))) (fadd (fmul (x) (x)) (fmul (y) (y)))), bv (sb (fmul (y) (y)) (fmul (x) (x))), bv (fadd (fmul (x) (x)) (fmul (y) (y))), bv (sb (fadd (fmul (z) (z)) (fmul (z) (z))) (sb (fmul (y) (y)) (fmul (x) (x))))] rfl (fun w => by kernel_rfl) (fun w hg => quotients_num (sb (fmul (fadd (x) (y)) (fadd (x) (y))) (fadd (fmul (x) (x)) (fmul (y) (y)))) (sb (fmul (y) (y)) (fmul (x) (x))) (fadd (fmul (x) (x)) (fmul (y) (y))) (sb (fadd (fmul (z) (z)) (fmul (z) (z))) (sb (fmul (y) (y)) (fmul (x) (x)))) (fsb_lt _ _) (fsb_lt _ _) (fadd_lt _ _) (fsb_lt _ _) w)) ?_
    refine Obs.cons (Ob.fin rfl (by rw [ics_length]; exact ht_b1) rfl (by kernel_rfl) (by kernel_rfl) (by rw [ics_length]; exact infoI) (ics_one _ _ _ _)) ?_
    exact Obs.nil
  replace hr_b0 := rangeAt_grown hr_b0 hD.gr
  replace hr_b0x := rangeAt_grown hr_b0x hD.gr
  replace hr_b0y := rangeAt_grown hr_b0y hD.gr
  replace hr_b0z := rangeAt_grown hr_b0z hD.gr
  replace hr_b0w := rangeAt_grown hr_b0w hD.gr
  replace hr_b0p := rangeAt_grown hr_b0p hD.gr
  replace hr_b2 := rangeAt_grown hr_b2 hD.gr
  replace hr_b3 := rangeAt_grown hr_b3 hD.gr
  replace hr_b4 := rangeAt_grown hr_b4 hD.gr
  replace hr_b5 := rangeAt_grown hr_b5 hD.gr
  replace hr_b6 := rangeAt_grown hr_b6 hD.gr
  replace hr_b7 := rangeAt_grown hr_b7 hD.gr
  replace ht_b1 := there_grown ht_b1 hD.gr
  replace ht_b2 := there_grown ht_b2 hD.gr
  replace ht_b3 := there_grown ht_b3 hD.gr
  replace ht_b4 := there_grown ht_b4 hD.gr
  replace ht_b5 := there_grown ht_b5 hD.gr
  replace ht_b6 := there_grown ht_b6 hD.gr
  replace ht_b7 := there_grown ht_b7 hD.gr
  replace hW := grown_trans hW hD.gr
  clear hD
  simp only [finAct, putAll, valsFrom, Plan.value, Act.put, List.setIfInBounds_toArray, List.set_cons_zero, List.set_cons_succ]
  have hs6 := World.rangeAt_setCells_same w6 (b1) 0 (ics (fmul (sb (fmul (fadd (x) (y)) (fadd (x) (y))) (fadd (fmul (x) (x)) (fmul (y) (y)))) (sb (fadd (fmul (z) (z)) (fmul (z) (z))) (sb (fmul (y) (y)) (fmul (x) (x))))) (fmul (fadd (fmul (x) (x)) (fmul (y) (y))) (sb (fmul (y) (y)) (fmul (x) (x)))) (fmul (sb (fmul (y) (y)) (fmul (x) (x))) (sb (fadd (fmul (z) (z)) (fmul (z) (z))) (sb (fmul (y) (y)) (fmul (x) (x))))) (fmul (sb (fmul (fadd (x) (y)) (fadd (x) (y))) (fadd (fmul (x) (x)) (fmul (y) (y)))) (fadd (fmul (x) (x)) (fmul (y) (y))))) (by rw [ics_length]; exact ht_b1)
  replace hW := grown_setCells hf_b1 (ics (fmul (sb (fmul (fadd (x) (y)) (fadd (x) (y))) (fadd (fmul (x) (x)) (fmul (y) (y)))) (sb (fadd (fmul (z) (z)) (fmul (z) (z))) (sb (fmul (y) (y)) (fmul (x) (x))))) (fmul (fadd (fmul (x) (x)) (fmul (y) (y))) (sb (fmul (y) (y)) (fmul (x) (x)))) (fmul (sb (fmul (y) (y)) (fmul (x) (x))) (sb (fadd (fmul (z) (z)) (fmul (z) (z))) (sb (fmul (y) (y)) (fmul (x) (x))))) (fmul (sb (fmul (fadd (x) (y)) (fadd (x) (y))) (fadd (fmul (x) (x)) (fmul (y) (y)))) (fadd (fmul (x) (x)) (fmul (y) (y))))) 0 hW
  generalize w6.setCells (b1) 0 (ics (fmul (sb (fmul (fadd (x) (y)) (fadd (x) (y))) (fadd (fmul (x) (x)) (fmul (y) (y)))) (sb (fadd (fmul (z) (z)) (fmul (z) (z))) (sb (fmul (y) (y)) (fmul (x) (x))))) (fmul (fadd (fmul (x) (x)) (fmul (y) (y))) (sb (fmul (y) (y)) (fmul (x) (x)))) (fmul (sb (fmul (y) (y)) (fmul (x) (x))) (sb (fadd (fmul (z) (z)) (fmul (z) (z))) (sb (fmul (y) (y)) (fmul (x) (x))))) (fmul (sb (fmul (fadd (x) (y)) (fadd (x) (y))) (fadd (fmul (x) (x)) (fmul (y) (y)))) (fadd (fmul (x) (x)) (fmul (y) (y))))) = w6s at *
  repeat go_step
  refine bodyPost_ret (v := iv (fmul (sb (fmul (fadd (x) (y)) (fadd (x) (y))) (fadd (fmul (x) (x)) (fmul (y) (y)))) (sb (fadd (fmul (z) (z)) (fmul (z) (z))) (sb (fmul (y) (y)) (fmul (x) (x))))) (fmul (fadd (fmul (x) (x)) (fmul (y) (y))) (sb (fmul (y) (y)) (fmul (x) (x)))) (fmul (sb (fmul (y) (y)) (fmul (x) (x))) (sb (fadd (fmul (z) (z)) (fmul (z) (z))) (sb (fmul (y) (y)) (fmul (x) (x))))) (fmul (sb (fmul (fadd (x) (y)) (fadd (x) (y))) (fadd (fmul (x) (x)) (fmul (y) (y)))) (fadd (fmul (x) (x)) (fmul (y) (y))))) (result_cells Tryd.results77 _ _ (b1) _ ?hp hs6 Tryd.underlying93 rfl (by rw [ics_length]; exact infoI)) ?hd ?_
  case hp => rfl
  case hd => rfl
  exact ⟨rfl, hW⟩
end Go.Proofs.YtoimglbjepppmaaDoor

namespace Go.Proofs.YtoimglbjepppmaaDoor
open Go.RowKit Go.Shelf FieldNum

/-- the double, over a divisor -/
def dbX (x y z : Nat) : Nat := fmul (sb (fmul (fadd x y) (fadd x y)) (fadd (fmul x x) (fmul y y))) (sb (fadd (fmul z z) (fmul z z)) (sb (fmul y y) (fmul x x)))
def dbY (x y : Nat) : Nat := fmul (fadd (fmul x x) (fmul y y)) (sb (fmul y y) (fmul x x))
def dbZ (x y z : Nat) : Nat := fmul (sb (fmul y y) (fmul x x)) (sb (fadd (fmul z z) (fmul z z)) (sb (fmul y y) (fmul x x)))
def dbT (x y : Nat) : Nat := fmul (sb (fmul (fadd x y) (fadd x y)) (fadd (fmul x x) (fmul y y))) (fadd (fmul x x) (fmul y y))
theorem dbX_lt (x y z : Nat) : dbX x y z < M := fmul_lt _ _
theorem dbY_lt (x y : Nat) : dbY x y < M := fmul_lt _ _
theorem dbZ_lt (x y z : Nat) : dbZ x y z < M := fmul_lt _ _
theorem dbT_lt (x y : Nat) : dbT x y < M := fmul_lt _ _
theorem doubled_d (x y z t : Nat) (hx : x < M) (hy : y < M) (hz : z < M) (w : World) :
    Calls Tryd.prog 77 #[iv x y z t] w fun ex w' => ex = .returned (iv (dbX x y z) (dbY x y) (dbZ x y z) (dbT x y)) ∧ Grown w w' := doubled_num x y z t hx hy hz w

theorem onc_f (x y : Nat) : onc x y ↔ sb (fmul y y) (fmul x x) = fadd 1 (fmul dd (fmul (fmul x x) (fmul y y))) := Iff.rfl

set_option maxRecDepth 100000 in
set_option maxHeartbeats 2000000 in
theorem On_x (x y : Nat) (hx : x < M) (_hy : y < M) (hcx : ¬ x < p) (w : World) (hGl0 : G2 w) :
    Calls Tryd.prog 34 #[pv x y] w fun ex w' => ex = .returned (.bool false) ∧ Grown w w' := by
  have hW := Grown.refl w
  have hGl := hGl0
  go_enter Tryd.func34, Tryd.ntmps34
  repeat ((fail_if_success (with_reducible show Code.wp _ (Code.region _ _ _) _ _ _)); go_step)
  refine wp_plain [.box 37 (pcs (x) (y)), .imm (.bool false)] (by kernel_rfl) (fun β => ?_) (fun β w1 hD => ?_)
  · refine Obs.cons (Ob.box rfl rfl (by kernel_rfl)) ?_
    refine Obs.cons (Ob.imm rfl (fun w => by kernel_rfl)) ?_
    exact Obs.nil
  obtain ⟨hf_b0, hr_b0⟩ := hD.bx 0 _ _ rfl
  replace hf_b0 := Nat.le_trans hW.2.2 hf_b0
  replace hW := grown_trans hW hD.gr
  clear hD
  simp only [finAct, putAll, valsFrom, Plan.value, Act.put, List.setIfInBounds_toArray, List.set_cons_zero, List.set_cons_succ]
  replace hGl := hGl0.grown hW
  generalize β 0 = b0 at *
  have hr_b0x : w1.rangeAt b0 0 (bl (x)) := rangeAt_left hr_b0
  have hr_b0y : w1.rangeAt b0 32 (bl (y)) := rangeAt_right 32 (bl_length _) hr_b0
  repeat ((fail_if_success (with_reducible show Code.wp _ (Code.region _ _ _) _ _ _)); go_step)
  refine wp_plain [.imm (.pointer (some ⟨b0, 0, none⟩)), .val (bv (x)), .val (.bool false), .imm (.bool true), .imm (.bool true), .skip, .skip, .skip, .skip, .imm (.bool true)] (by kernel_rfl) (fun β => ?_) (fun β w2 hD => ?_)
  · refine Obs.cons (Ob.imm rfl (fun w => by kernel_rfl)) ?_
    refine Obs.cons (Ob.load (b0) 0 (bl (x)) rfl rfl (by kernel_rfl) hr_b0x Tryd.underlying23 rfl (by rw [bl_length]; exact info32)) ?_
    refine Obs.cons (Ob.call 18 #[bv (x)] rfl (fun w => by kernel_rfl) (fun w hg => canon_is (x) hx false (decide_eq_false hcx) w)) ?_
    refine Obs.cons (Ob.imm rfl (fun w => by kernel_rfl)) ?_
    refine Obs.cons (Ob.imm rfl (fun w => by kernel_rfl)) ?_
    refine Obs.cons (Ob.skip (by kernel_rfl)) ?_
    refine Obs.cons (Ob.skip (by kernel_rfl)) ?_
    refine Obs.cons (Ob.skip (by kernel_rfl)) ?_
    refine Obs.cons (Ob.skip (by kernel_rfl)) ?_
    refine Obs.cons (Ob.imm rfl (fun w => by kernel_rfl)) ?_
    exact Obs.nil
  replace hr_b0 := rangeAt_grown hr_b0 hD.gr
  replace hr_b0x := rangeAt_grown hr_b0x hD.gr
  replace hr_b0y := rangeAt_grown hr_b0y hD.gr
  replace hW := grown_trans hW hD.gr
  clear hD
  simp only [finAct, putAll, valsFrom, Plan.value, Act.put, List.setIfInBounds_toArray, List.set_cons_zero, List.set_cons_succ]
  replace hGl := hGl0.grown hW
  repeat ((fail_if_success (with_reducible show Code.wp _ (Code.region _ _ _) _ _ _)); go_step)
  refine wp_plain [.imm (.bool false)] (by kernel_rfl) (fun β => ?_) (fun β w3 hD => ?_)
  · refine Obs.cons (Ob.imm rfl (fun w => by kernel_rfl)) ?_
    exact Obs.nil
  replace hr_b0 := rangeAt_grown hr_b0 hD.gr
  replace hr_b0x := rangeAt_grown hr_b0x hD.gr
  replace hr_b0y := rangeAt_grown hr_b0y hD.gr
  replace hW := grown_trans hW hD.gr
  clear hD
  simp only [finAct, putAll, valsFrom, Plan.value, Act.put, List.setIfInBounds_toArray, List.set_cons_zero, List.set_cons_succ]
  replace hGl := hGl0.grown hW
  repeat go_step
  go_ret
  exact ⟨rfl, hW⟩

set_option maxRecDepth 100000 in
set_option maxHeartbeats 2000000 in
theorem On_y (x y : Nat) (hx : x < M) (hy : y < M) (hcx : x < p) (hcy : ¬ y < p) (w : World) (hGl0 : G2 w) :
    Calls Tryd.prog 34 #[pv x y] w fun ex w' => ex = .returned (.bool false) ∧ Grown w w' := by
  have hW := Grown.refl w
  have hGl := hGl0
  go_enter Tryd.func34, Tryd.ntmps34
  repeat ((fail_if_success (with_reducible show Code.wp _ (Code.region _ _ _) _ _ _)); go_step)
  refine wp_plain [.box 37 (pcs (x) (y)), .imm (.bool false)] (by kernel_rfl) (fun β => ?_) (fun β w1 hD => ?_)
  · refine Obs.cons (Ob.box rfl rfl (by kernel_rfl)) ?_
    refine Obs.cons (Ob.imm rfl (fun w => by kernel_rfl)) ?_
    exact Obs.nil
  obtain ⟨hf_b0, hr_b0⟩ := hD.bx 0 _ _ rfl
  replace hf_b0 := Nat.le_trans hW.2.2 hf_b0
  replace hW := grown_trans hW hD.gr
  clear hD
  simp only [finAct, putAll, valsFrom, Plan.value, Act.put, List.setIfInBounds_toArray, List.set_cons_zero, List.set_cons_succ]
  replace hGl := hGl0.grown hW
  generalize β 0 = b0 at *
  have hr_b0x : w1.rangeAt b0 0 (bl (x)) := rangeAt_left hr_b0
  have hr_b0y : w1.rangeAt b0 32 (bl (y)) := rangeAt_right 32 (bl_length _) hr_b0
  repeat ((fail_if_success (with_reducible show Code.wp _ (Code.region _ _ _) _ _ _)); go_step)
  refine wp_plain [.imm (.pointer (some ⟨b0, 0, none⟩)), .val (bv (x)), .val (.bool true), .imm (.bool false), .imm (.bool false), .imm (.pointer (some ⟨b0, 32, none⟩)), .val (bv (y)), .val (.bool false), .imm (.bool true), .imm (.bool true)] (by kernel_rfl) (fun β => ?_) (fun β w2 hD => ?_)
  · refine Obs.cons (Ob.imm rfl (fun w => by kernel_rfl)) ?_
    refine Obs.cons (Ob.load (b0) 0 (bl (x)) rfl rfl (by kernel_rfl) hr_b0x Tryd.underlying23 rfl (by rw [bl_length]; exact info32)) ?_
    refine Obs.cons (Ob.call 18 #[bv (x)] rfl (fun w => by kernel_rfl) (fun w hg => canon_is (x) hx true (decide_eq_true hcx) w)) ?_
    refine Obs.cons (Ob.imm rfl (fun w => by kernel_rfl)) ?_
    refine Obs.cons (Ob.imm rfl (fun w => by kernel_rfl)) ?_
    refine Obs.cons (Ob.imm (by kernel_rfl) (fun w => by kernel_rfl)) ?_
    refine Obs.cons (Ob.load (b0) 32 (bl (y)) (by kernel_rfl) rfl (by kernel_rfl) hr_b0y Tryd.underlying23 rfl (by rw [bl_length]; exact info32)) ?_
    refine Obs.cons (Ob.call 18 #[bv (y)] (by kernel_rfl) (fun w => by kernel_rfl) (fun w hg => canon_is (y) hy false (decide_eq_false hcy) w)) ?_
    refine Obs.cons (Ob.imm (by kernel_rfl) (fun w => by kernel_rfl)) ?_
    refine Obs.cons (Ob.imm rfl (fun w => by kernel_rfl)) ?_
    exact Obs.nil
  replace hr_b0 := rangeAt_grown hr_b0 hD.gr
  replace hr_b0x := rangeAt_grown hr_b0x hD.gr
  replace hr_b0y := rangeAt_grown hr_b0y hD.gr
  replace hW := grown_trans hW hD.gr
  clear hD
  simp only [finAct, putAll, valsFrom, Plan.value, Act.put, List.setIfInBounds_toArray, List.set_cons_zero, List.set_cons_succ]
  replace hGl := hGl0.grown hW
  repeat ((fail_if_success (with_reducible show Code.wp _ (Code.region _ _ _) _ _ _)); go_step)
  refine wp_plain [.imm (.bool false)] (by kernel_rfl) (fun β => ?_) (fun β w3 hD => ?_)
  · refine Obs.cons (Ob.imm rfl (fun w => by kernel_rfl)) ?_
    exact Obs.nil
  replace hr_b0 := rangeAt_grown hr_b0 hD.gr
  replace hr_b0x := rangeAt_grown hr_b0x hD.gr
  replace hr_b0y := rangeAt_grown hr_b0y hD.gr
  replace hW := grown_trans hW hD.gr
  clear hD
  simp only [finAct, putAll, valsFrom, Plan.value, Act.put, List.setIfInBounds_toArray, List.set_cons_zero, List.set_cons_succ]
  replace hGl := hGl0.grown hW
  repeat go_step
  go_ret
  exact ⟨rfl, hW⟩

set_option maxRecDepth 100000 in
set_option maxHeartbeats 2000000 in
theorem On_1 (x y : Nat) (hx : x < M) (hy : y < M) (hcx : x < p) (hcy : y < p) (ho : onc x y) (w : World) (hGl0 : G2 w) :
    Calls Tryd.prog 34 #[pv x y] w fun ex w' => ex = .returned (.bool true) ∧ Grown w w' := by
  have hW := Grown.refl w
  have hGl := hGl0
  go_enter Tryd.func34, Tryd.ntmps34
  repeat ((fail_if_success (with_reducible show Code.wp _ (Code.region _ _ _) _ _ _)); go_step)
  refine wp_plain [.box 37 (pcs (x) (y)), .imm (.bool false)] (by kernel_rfl) (fun β => ?_) (fun β w1 hD => ?_)
  · refine Obs.cons (Ob.box rfl rfl (by kernel_rfl)) ?_
    refine Obs.cons (Ob.imm rfl (fun w => by kernel_rfl)) ?_
    exact Obs.nil
  obtain ⟨hf_b0, hr_b0⟩ := hD.bx 0 _ _ rfl
  replace hf_b0 := Nat.le_trans hW.2.2 hf_b0
  replace hW := grown_trans hW hD.gr
  clear hD
  simp only [finAct, putAll, valsFrom, Plan.value, Act.put, List.setIfInBounds_toArray, List.set_cons_zero, List.set_cons_succ]
  replace hGl := hGl0.grown hW
  generalize β 0 = b0 at *
  have hr_b0x : w1.rangeAt b0 0 (bl (x)) := rangeAt_left hr_b0
  have hr_b0y : w1.rangeAt b0 32 (bl (y)) := rangeAt_right 32 (bl_length _) hr_b0
  repeat ((fail_if_success (with_reducible show Code.wp _ (Code.region _ _ _) _ _ _)); go_step)
  refine wp_plain [.imm (.pointer (some ⟨b0, 0, none⟩)), .val (bv (x)), .val (.bool true), .imm (.bool false), .imm (.bool false), .imm (.pointer (some ⟨b0, 32, none⟩)), .val (bv (y)), .val (.bool true), .imm (.bool false), .imm (.bool false)] (by kernel_rfl) (fun β => ?_) (fun β w2 hD => ?_)
  · refine Obs.cons (Ob.imm rfl (fun w => by kernel_rfl)) ?_
    refine Obs.cons (Ob.load (b0) 0 (bl (x)) rfl rfl (by kernel_rfl) hr_b0x Tryd.underlying23 rfl (by rw [bl_length]; exact info32)) ?_
    refine Obs.cons (Ob.call 18 #[bv (x)] rfl (fun w => by kernel_rfl) (fun w hg => canon_is (x) hx true (decide_eq_true hcx) w)) ?_
    refine Obs.cons (Ob.imm rfl (fun w => by kernel_rfl)) ?_
    refine Obs.cons (Ob.imm rfl (fun w => by kernel_rfl)) ?_
    refine Obs.cons (Ob.imm (by kernel_rfl) (fun w => by kernel_rfl)) ?_
    refine Obs.cons (Ob.load (b0) 32 (bl (y)) (by kernel_rfl) rfl (by kernel_rfl) hr_b0y Tryd.underlying23 rfl (by rw [bl_length]; exact info32)) ?_
    refine Obs.cons (Ob.call 18 #[bv (y)] (by kernel_rfl) (fun w => by kernel_rfl) (fun w hg => canon_is (y) hy true (decide_eq_true hcy) w)) ?_
    refine Obs.cons (Ob.imm (by kernel_rfl) (fun w => by kernel_rfl)) ?_
    refine Obs.cons (Ob.imm rfl (fun w => by kernel_rfl)) ?_
    exact Obs.nil
  replace hr_b0 := rangeAt_grown hr_b0 hD.gr
  replace hr_b0x := rangeAt_grown hr_b0x hD.gr
  replace hr_b0y := rangeAt_grown hr_b0y hD.gr
  replace hW := grown_trans hW hD.gr
  clear hD
  simp only [finAct, putAll, valsFrom, Plan.value, Act.put, List.setIfInBounds_toArray, List.set_cons_zero, List.set_cons_succ]
  replace hGl := hGl0.grown hW
  repeat ((fail_if_success (with_reducible show Code.wp _ (Code.region _ _ _) _ _ _)); go_step)
  replace hr_b0 := rangeAt_grown hr_b0 (gdrew w2)
  replace hr_b0x := rangeAt_grown hr_b0x (gdrew w2)
  replace hr_b0y := rangeAt_grown hr_b0y (gdrew w2)
  replace hW := grown_trans hW (gdrew w2)
  replace hGl := hGl0.grown hW
  refine wp_loose [.imm (.pointer (some ⟨b0, 0, none⟩)), .val (bv (x)), .val (bv (fmul (x) (x))), .imm (.pointer (some ⟨b0, 32, none⟩)), .val (bv (y)), .val (bv (fmul (y) (y))), .new 23 32, .new 23 32, .put 6 6 (fun _ => bl (fmul (x) (x))), .put 7 7 (fun _ => bl (fmul (y) (y)))] (by kernel_rfl) (by kernel_rfl) (fun β => ?_) (fun β w3 hD => ?_)
  · refine Obs.cons (Ob.imm rfl (fun w => by kernel_rfl)) ?_
    refine Obs.cons (Ob.load (b0) 0 (bl (x)) rfl rfl (by kernel_rfl) hr_b0x Tryd.underlying23 rfl (by rw [bl_length]; exact info32)) ?_
    refine Obs.cons (Ob.call 17 #[bv (x)] rfl (fun w => by kernel_rfl) (fun w hg => Square_f (x) hx w)) ?_
    refine Obs.cons (Ob.imm rfl (fun w => by kernel_rfl)) ?_
    refine Obs.cons (Ob.load (b0) 32 (bl (y)) rfl rfl (by kernel_rfl) hr_b0y Tryd.underlying23 rfl (by rw [bl_length]; exact info32)) ?_
    refine Obs.cons (Ob.call 17 #[bv (y)] rfl (fun w => by kernel_rfl) (fun w hg => Square_f (y) hy w)) ?_
    refine Obs.cons (Ob.new _ rfl rfl zero32.1 (by simp [bl_length])) ?_
    refine Obs.cons (Ob.new _ rfl rfl zero32.1 (by simp [bl_length])) ?_
    refine Obs.cons (Ob.put 23 rfl rfl rfl (by kernel_rfl) (by kernel_rfl) (by rw [bl_length]; exact info32) (bl_one _)) ?_
    refine Obs.cons (Ob.put 23 rfl rfl rfl (by kernel_rfl) (by kernel_rfl) (by rw [bl_length]; exact info32) (bl_one _)) ?_
    exact Obs.nil
  replace hr_b0 := rangeAt_grown hr_b0 hD.gr
  replace hr_b0x := rangeAt_grown hr_b0x hD.gr
  replace hr_b0y := rangeAt_grown hr_b0y hD.gr
  obtain ⟨hf_b1, ht_b1⟩ := hD.nw 6 _ _ rfl
  have hr_b1 : w3.rangeAt (β 6) 0 (bl (fmul (x) (x))) := hD.rg 8 6 6 (fun _ => bl (fmul (x) (x))) rfl
  replace hf_b1 := Nat.le_trans hW.2.2 hf_b1
  obtain ⟨hf_b2, ht_b2⟩ := hD.nw 7 _ _ rfl
  have hr_b2 : w3.rangeAt (β 7) 0 (bl (fmul (y) (y))) := hD.rg 9 7 7 (fun _ => bl (fmul (y) (y))) rfl
  replace hf_b2 := Nat.le_trans hW.2.2 hf_b2
  replace hW := grown_trans hW hD.gr
  clear hD
  simp only [finAct, putAll, valsFrom, Plan.value, Act.put, List.setIfInBounds_toArray, List.set_cons_zero, List.set_cons_succ]
  replace hGl := hGl0.grown hW
  generalize β (0 + 1 + 1 + 1 + 1 + 1 + 1) = b1 at *
  generalize β (0 + 1 + 1 + 1 + 1 + 1 + 1 + 1) = b2 at *
  repeat ((fail_if_success (with_reducible show Code.wp _ (Code.region _ _ _) _ _ _)); go_step)
  replace hr_b0 := rangeAt_grown hr_b0 (gdrew w3)
  replace hr_b0x := rangeAt_grown hr_b0x (gdrew w3)
  replace hr_b0y := rangeAt_grown hr_b0y (gdrew w3)
  replace hr_b1 := rangeAt_grown hr_b1 (gdrew w3)
  replace hr_b2 := rangeAt_grown hr_b2 (gdrew w3)
  replace ht_b1 := there_grown ht_b1 (gdrew w3)
  replace ht_b2 := there_grown ht_b2 (gdrew w3)
  replace hW := grown_trans hW (gdrew w3)
  replace hGl := hGl0.grown hW
  refine wp_loose [.val (bv (fmul (y) (y))), .val (bv (fmul (x) (x))), .val (bv (sb (fmul (y) (y)) (fmul (x) (x)))), .val (bv (1)), .val (bv (dd)), .val (bv (fmul (x) (x))), .val (bv (fmul (y) (y))), .val (bv (fmul (fmul (x) (x)) (fmul (y) (y)))), .val (bv (fmul (dd) (fmul (fmul (x) (x)) (fmul (y) (y))))), .val (bv (fadd (1) (fmul (dd) (fmul (fmul (x) (x)) (fmul (y) (y)))))), .imm (.bool true), .imm (.bool true)] (by kernel_rfl) (by kernel_rfl) (fun β => ?_) (fun β w4 hD => ?_)
  · refine Obs.cons (Ob.load (b2) 0 (bl (fmul (y) (y))) rfl rfl (by kernel_rfl) hr_b2 Tryd.underlying23 rfl (by rw [bl_length]; exact info32)) ?_
    refine Obs.cons (Ob.load (b1) 0 (bl (fmul (x) (x))) rfl rfl (by kernel_rfl) hr_b1 Tryd.underlying23 rfl (by rw [bl_length]; exact info32)) ?_
    refine Obs.cons (Ob.call 29 #[bv (fmul (y) (y)), bv (fmul (x) (x))] rfl (fun w => by kernel_rfl) (fun w hg => Sub_any (fmul (y) (y)) (fmul (x) (x)) (fmul_lt _ _) (fmul_lt _ _) w)) ?_
    refine Obs.cons (Ob.load (2) 0 (bl (1)) rfl rfl (by kernel_rfl) hGl.g2.pone Tryd.underlying23 rfl (by rw [bl_length]; exact info32)) ?_
    refine Obs.cons (Ob.load (3) 0 (bl (dd)) rfl rfl (by kernel_rfl) hGl.g2.pd Tryd.underlying23 rfl (by rw [bl_length]; exact info32)) ?_
    refine Obs.cons (Ob.load (b1) 0 (bl (fmul (x) (x))) rfl rfl (by kernel_rfl) hr_b1 Tryd.underlying23 rfl (by rw [bl_length]; exact info32)) ?_
    refine Obs.cons (Ob.load (b2) 0 (bl (fmul (y) (y))) rfl rfl (by kernel_rfl) hr_b2 Tryd.underlying23 rfl (by rw [bl_length]; exact info32)) ?_
    refine Obs.cons (Ob.call 12 #[bv (fmul (x) (x)), bv (fmul (y) (y))] rfl (fun w => by kernel_rfl) (fun w hg => Mul_f (fmul (x) (x)) (fmul (y) (y)) (fmul_lt _ _) (fmul_lt _ _) w)) ?_
    refine Obs.cons (Ob.call 12 #[bv (dd), bv (fmul (fmul (x) (x)) (fmul (y) (y)))] rfl (fun w => by kernel_rfl) (fun w hg => Mul_f (dd) (fmul (fmul (x) (x)) (fmul (y) (y))) dd_M (fmul_lt _ _) w)) ?_
    refine Obs.cons (Ob.call 19 #[bv (1), bv (fmul (dd) (fmul (fmul (x) (x)) (fmul (y) (y))))] rfl (fun w => by kernel_rfl) (fun w hg => Add_f (1) (fmul (dd) (fmul (fmul (x) (x)) (fmul (y) (y)))) (by decide) (fmul_lt _ _) w)) ?_
    refine Obs.cons (Ob.imm rfl (fun w => exec_eql_same rfl (sb (fmul (y) (y)) (fmul (x) (x))) (fadd (1) (fmul (dd) (fmul (fmul (x) (x)) (fmul (y) (y))))) (by kernel_rfl) (by kernel_rfl) (fsb_lt _ _) (fadd_lt _ _) ((onc_f x y).1 ho) w)) ?_
    refine Obs.cons (Ob.imm rfl (fun w => by kernel_rfl)) ?_
    exact Obs.nil
  replace hr_b0 := rangeAt_grown hr_b0 hD.gr
  replace hr_b0x := rangeAt_grown hr_b0x hD.gr
  replace hr_b0y := rangeAt_grown hr_b0y hD.gr
  replace hr_b1 := rangeAt_grown hr_b1 hD.gr
  replace hr_b2 := rangeAt_grown hr_b2 hD.gr
  replace ht_b1 := there_grown ht_b1 hD.gr
  replace ht_b2 := there_grown ht_b2 hD.gr
  replace hW := grown_trans hW hD.gr
  clear hD
  simp only [finAct, putAll, valsFrom, Plan.value, Act.put, List.setIfInBounds_toArray, List.set_cons_zero, List.set_cons_succ]
  replace hGl := hGl0.grown hW
  repeat go_step
  go_ret
  exact ⟨rfl, hW⟩

set_option maxRecDepth 100000 in
set_option maxHeartbeats 2000000 in
theorem On_0 (x y : Nat) (hx : x < M) (hy : y < M) (hcx : x < p) (hcy : y < p) (ho : ¬ onc x y) (w : World) (hGl0 : G2 w) :
    Calls Tryd.prog 34 #[pv x y] w fun ex w' => ex = .returned (.bool false) ∧ Grown w w' := by
  have hW := Grown.refl w
  have hGl := hGl0
  go_enter Tryd.func34, Tryd.ntmps34
  repeat ((fail_if_success (with_reducible show Code.wp _ (Code.region _ _ _) _ _ _)); go_step)
  refine wp_plain [.box 37 (pcs (x) (y)), .imm (.bool false)] (by kernel_rfl) (fun β => ?_) (fun β w1 hD => ?_)
  · refine Obs.cons (Ob.box rfl rfl (by kernel_rfl)) ?_
    refine Obs.cons (Ob.imm rfl (fun w => by kernel_rfl)) ?_
    exact Obs.nil
  obtain ⟨hf_b0, hr_b0⟩ := hD.bx 0 _ _ rfl
  replace hf_b0 := Nat.le_trans hW.2.2 hf_b0
  replace hW := grown_trans hW hD.gr
  clear hD
  simp only [finAct, putAll, valsFrom, Plan.value, Act.put, List.setIfInBounds_toArray, List.set_cons_zero, List.set_cons_succ]
  replace hGl := hGl0.grown hW
  generalize β 0 = b0 at *
  have hr_b0x : w1.rangeAt b0 0 (bl (x)) := rangeAt_left hr_b0
  have hr_b0y : w1.rangeAt b0 32 (bl (y)) := rangeAt_right 32 (bl_length _) hr_b0
  repeat ((fail_if_success (with_reducible show Code.wp _ (Code.region _ _ _) _ _ _)); go_step)
  refine wp_plain [.imm (.pointer (some ⟨b0, 0, none⟩)), .val (bv (x)), .val (.bool true), .imm (.bool false), .imm (.bool false), .imm (.pointer (some ⟨b0, 32, none⟩)), .val (bv (y)), .val (.bool true), .imm (.bool false), .imm (.bool false)] (by kernel_rfl) (fun β => ?_) (fun β w2 hD => ?_)
  · refine Obs.cons (Ob.imm rfl (fun w => by kernel_rfl)) ?_
    refine Obs.cons (Ob.load (b0) 0 (bl (x)) rfl rfl (by kernel_rfl) hr_b0x Tryd.underlying23 rfl (by rw [bl_length]; exact info32)) ?_
    refine Obs.cons (Ob.call 18 #[bv (x)] rfl (fun w => by kernel_rfl) (fun w hg => canon_is (x) hx true (decide_eq_true hcx) w)) ?_
    refine Obs.cons (Ob.imm rfl (fun w => by kernel_rfl)) ?_
    refine Obs.cons (Ob.imm rfl (fun w => by kernel_rfl)) ?_
    refine Obs.cons (Ob.imm (by kernel_rfl) (fun w => by kernel_rfl)) ?_
    refine Obs.cons (Ob.load (b0) 32 (bl (y)) (by kernel_rfl) rfl (by kernel_rfl) hr_b0y Tryd.underlying23 rfl (by rw [bl_length]; exact info32)) ?_
    refine Obs.cons (Ob.call 18 #[bv (y)] (by kernel_rfl) (fun w => by kernel_rfl) (fun w hg => canon_is (y) hy true (decide_eq_true hcy) w)) ?_
    refine Obs.cons (Ob.imm (by kernel_rfl) (fun w => by kernel_rfl)) ?_
    refine Obs.cons (Ob.imm rfl (fun w => by kernel_rfl)) ?_
    exact Obs.nil
  replace hr_b0 := rangeAt_grown hr_b0 hD.gr
  replace hr_b0x := rangeAt_grown hr_b0x hD.gr
  replace hr_b0y := rangeAt_grown hr_b0y hD.gr
  replace hW := grown_trans hW hD.gr
  clear hD
  simp only [finAct, putAll, valsFrom, Plan.value, Act.put, List.setIfInBounds_toArray, List.set_cons_zero, List.set_cons_succ]
  replace hGl := hGl0.grown hW
  repeat ((fail_if_success (with_reducible show Code.wp _ (Code.region _ _ _) _ _ _)); go_step)
  replace hr_b0 := rangeAt_grown hr_b0 (gdrew w2)
  replace hr_b0x := rangeAt_grown hr_b0x (gdrew w2)
  replace hr_b0y := rangeAt_grown hr_b0y (gdrew w2)
  replace hW := grown_trans hW (gdrew w2)
  replace hGl := hGl0.grown hW
  refine wp_loose [.imm (.pointer (some ⟨b0, 0, none⟩)), .val (bv (x)), .val (bv (fmul (x) (x))), .imm (.pointer (some ⟨b0, 32, none⟩)), .val (bv (y)), .val (bv (fmul (y) (y))), .new 23 32, .new 23 32, .put 6 6 (fun _ => bl (fmul (x) (x))), .put 7 7 (fun _ => bl (fmul (y) (y)))] (by kernel_rfl) (by kernel_rfl) (fun β => ?_) (fun β w3 hD => ?_)
  · refine Obs.cons (Ob.imm rfl (fun w => by kernel_rfl)) ?_
    refine Obs.cons (Ob.load (b0) 0 (bl (x)) rfl rfl (by kernel_rfl) hr_b0x Tryd.underlying23 rfl (by rw [bl_length]; exact info32)) ?_
    refine Obs.cons (Ob.call 17 #[bv (x)] rfl (fun w => by kernel_rfl) (fun w hg => Square_f (x) hx w)) ?_
    refine Obs.cons (Ob.imm rfl (fun w => by kernel_rfl)) ?_
    refine Obs.cons (Ob.load (b0) 32 (bl (y)) rfl rfl (by kernel_rfl) hr_b0y Tryd.underlying23 rfl (by rw [bl_length]; exact info32)) ?_
    refine Obs.cons (Ob.call 17 #[bv (y)] rfl (fun w => by kernel_rfl) (fun w hg => Square_f (y) hy w)) ?_
    refine Obs.cons (Ob.new _ rfl rfl zero32.1 (by simp [bl_length])) ?_
    refine Obs.cons (Ob.new _ rfl rfl zero32.1 (by simp [bl_length])) ?_
    refine Obs.cons (Ob.put 23 rfl rfl rfl (by kernel_rfl) (by kernel_rfl) (by rw [bl_length]; exact info32) (bl_one _)) ?_
    refine Obs.cons (Ob.put 23 rfl rfl rfl (by kernel_rfl) (by kernel_rfl) (by rw [bl_length]; exact info32) (bl_one _)) ?_
    exact Obs.nil
  replace hr_b0 := rangeAt_grown hr_b0 hD.gr
  replace hr_b0x := rangeAt_grown hr_b0x hD.gr
  replace hr_b0y := rangeAt_grown hr_b0y hD.gr
  obtain ⟨hf_b1, ht_b1⟩ := hD.nw 6 _ _ rfl
  have hr_b1 : w3.rangeAt (β 6) 0 (bl (fmul (x) (x))) := hD.rg 8 6 6 (fun _ => bl (fmul (x) (x))) rfl
  replace hf_b1 := Nat.le_trans hW.2.2 hf_b1
  obtain ⟨hf_b2, ht_b2⟩ := hD.nw 7 _ _ rfl
  have hr_b2 : w3.rangeAt (β 7) 0 (bl (fmul (y) (y))) := hD.rg 9 7 7 (fun _ => bl (fmul (y) (y))) rfl
  replace hf_b2 := Nat.le_trans hW.2.2 hf_b2
  replace hW := grown_trans hW hD.gr
  clear hD
  simp only [finAct, putAll, valsFrom, Plan.value, Act.put, List.setIfInBounds_toArray, List.set_cons_zero, List.set_cons_succ]
  replace hGl := hGl0.grown hW
  generalize β (0 + 1 + 1 + 1 + 1 + 1 + 1) = b1 at *
  generalize β (0 + 1 + 1 + 1 + 1 + 1 + 1 + 1) = b2 at *
  repeat ((fail_if_success (with_reducible show Code.wp _ (Code.region _ _ _) _ _ _)); go_step)
  replace hr_b0 := rangeAt_grown hr_b0 (gdrew w3)
  replace hr_b0x := rangeAt_grown hr_b0x (gdrew w3)
  replace hr_b0y := rangeAt_grown hr_b0y (gdrew w3)
  replace hr_b1 := rangeAt_grown hr_b1 (gdrew w3)
  replace hr_b2 := rangeAt_grown hr_b2 (gdrew w3)
  replace ht_b1 := there_grown ht_b1 (gdrew w3)
  replace ht_b2 := there_grown ht_b2 (gdrew w3)
  replace hW := grown_trans hW (gdrew w3)
  replace hGl := hGl0.grown hW
  refine wp_loose [.val (bv (fmul (y) (y))), .val (bv (fmul (x) (x))), .val (bv (sb (fmul (y) (y)) (fmul (x) (x)))), .val (bv (1)), .val (bv (dd)), .val (bv (fmul (x) (x))), .val (bv (fmul (y) (y))), .val (bv (fmul (fmul (x) (x)) (fmul (y) (y)))), .val (bv (fmul (dd) (fmul (fmul (x) (x)) (fmul (y) (y))))), .val (bv (fadd (1) (fmul (dd) (fmul (fmul (x) (x)) (fmul (y) (y)))))), .imm (.bool false), .imm (.bool false)] (by kernel_rfl) (by kernel_rfl) (fun β => ?_) (fun β w4 hD => ?_)
  · refine Obs.cons (Ob.load (b2) 0 (bl (fmul (y) (y))) rfl rfl (by kernel_rfl) hr_b2 Tryd.underlying23 rfl (by rw [bl_length]; exact info32)) ?_
    refine Obs.cons (Ob.load (b1) 0 (bl (fmul (x) (x))) rfl rfl (by kernel_rfl) hr_b1 Tryd.underlying23 rfl (by rw [bl_length]; exact info32)) ?_
    refine Obs.cons (Ob.call 29 #[bv (fmul (y) (y)), bv (fmul (x) (x))] rfl (fun w => by kernel_rfl) (fun w hg => Sub_any (fmul (y) (y)) (fmul (x) (x)) (fmul_lt _ _) (fmul_lt _ _) w)) ?_
    refine Obs.cons (Ob.load (2) 0 (bl (1)) rfl rfl (by kernel_rfl) hGl.g2.pone Tryd.underlying23 rfl (by rw [bl_length]; exact info32)) ?_
    refine Obs.cons (Ob.load (3) 0 (bl (dd)) rfl rfl (by kernel_rfl) hGl.g2.pd Tryd.underlying23 rfl (by rw [bl_length]; exact info32)) ?_
    refine Obs.cons (Ob.load (b1) 0 (bl (fmul (x) (x))) rfl rfl (by kernel_rfl) hr_b1 Tryd.underlying23 rfl (by rw [bl_length]; exact info32)) ?_
    refine Obs.cons (Ob.load (b2) 0 (bl (fmul (y) (y))) rfl rfl (by kernel_rfl) hr_b2 Tryd.underlying23 rfl (by rw [bl_length]; exact info32)) ?_
    refine Obs.cons (Ob.call 12 #[bv (fmul (x) (x)), bv (fmul (y) (y))] rfl (fun w => by kernel_rfl) (fun w hg => Mul_f (fmul (x) (x)) (fmul (y) (y)) (fmul_lt _ _) (fmul_lt _ _) w)) ?_
    refine Obs.cons (Ob.call 12 #[bv (dd), bv (fmul (fmul (x) (x)) (fmul (y) (y)))] rfl (fun w => by kernel_rfl) (fun w hg => Mul_f (dd) (fmul (fmul (x) (x)) (fmul (y) (y))) dd_M (fmul_lt _ _) w)) ?_
    refine Obs.cons (Ob.call 19 #[bv (1), bv (fmul (dd) (fmul (fmul (x) (x)) (fmul (y) (y))))] rfl (fun w => by kernel_rfl) (fun w hg => Add_f (1) (fmul (dd) (fmul (fmul (x) (x)) (fmul (y) (y)))) (by decide) (fmul_lt _ _) w)) ?_
    refine Obs.cons (Ob.imm rfl (fun w => exec_eql_apart rfl (sb (fmul (y) (y)) (fmul (x) (x))) (fadd (1) (fmul (dd) (fmul (fmul (x) (x)) (fmul (y) (y))))) (by kernel_rfl) (by kernel_rfl) (fsb_lt _ _) (fadd_lt _ _) (fun e => ho ((onc_f x y).2 e)) w)) ?_
    refine Obs.cons (Ob.imm rfl (fun w => by kernel_rfl)) ?_
    exact Obs.nil
  replace hr_b0 := rangeAt_grown hr_b0 hD.gr
  replace hr_b0x := rangeAt_grown hr_b0x hD.gr
  replace hr_b0y := rangeAt_grown hr_b0y hD.gr
  replace hr_b1 := rangeAt_grown hr_b1 hD.gr
  replace hr_b2 := rangeAt_grown hr_b2 hD.gr
  replace ht_b1 := there_grown ht_b1 hD.gr
  replace ht_b2 := there_grown ht_b2 hD.gr
  replace hW := grown_trans hW hD.gr
  clear hD
  simp only [finAct, putAll, valsFrom, Plan.value, Act.put, List.setIfInBounds_toArray, List.set_cons_zero, List.set_cons_succ]
  replace hGl := hGl0.grown hW
  repeat go_step
  go_ret
  exact ⟨rfl, hW⟩

/-- a point: both numbers below p, and on the curve -/
abbrev isP (x y : Nat) : Prop := x < p ∧ y < p ∧ onc x y
theorem On_is (x y : Nat) (hx : x < M) (hy : y < M) (b : Bool) (hb : decide (isP x y) = b) (w : World) (hGl0 : G2 w) :
    Calls Tryd.prog 34 #[pv x y] w fun ex w' => ex = .returned (.bool b) ∧ Grown w w' := by
  subst hb
  by_cases h1 : x < p
  · by_cases h2 : y < p
    · by_cases h3 : onc x y
      · rw [decide_eq_true (show isP x y from ⟨h1, h2, h3⟩)]; exact On_1 x y hx hy h1 h2 h3 w hGl0
      · rw [decide_eq_false (show ¬ isP x y from fun h => h3 h.2.2)]; exact On_0 x y hx hy h1 h2 h3 w hGl0
    · rw [decide_eq_false (show ¬ isP x y from fun h => h2 h.2.1)]; exact On_y x y hx hy h1 h2 w hGl0
  · rw [decide_eq_false (show ¬ isP x y from fun h => h1 h.1)]; exact On_x x y hx hy h1 w hGl0
end Go.Proofs.YtoimglbjepppmaaDoor

namespace Go.Proofs.YtoimglbjepppmaaDoor
open Go.RowKit Go.Shelf FieldNum

set_option maxRecDepth 100000 in
set_option maxHeartbeats 2000000 in
theorem Double_1 (x y : Nat) (hx : x < M) (hy : y < M) (ho : isP x y) (w : World) (hGl0 : G2 w) :
    Calls Tryd.prog 42 #[pv x y] w fun ex w' => ex = .returned (.tuple #[pv (fmul (dbX (x) (y) (1)) (inv (dbZ (x) (y) (1)))) (fmul (dbY (x) (y)) (inv (dbZ (x) (y) (1)))), .int .i64 0]) ∧ Grown w w' := by
  have hW := Grown.refl w
  have hGl := hGl0
  go_enter Tryd.func42, Tryd.ntmps42
  repeat ((fail_if_success (with_reducible show Code.wp _ (Code.region _ _ _) _ _ _)); go_step)
  refine wp_plain [.box 37 (pcs (x) (y)), .new 37 64, .imm (.int .i64 (0))] (by kernel_rfl) (fun β => ?_) (fun β w1 hD => ?_)
  · refine Obs.cons (Ob.box rfl rfl (by kernel_rfl)) ?_
    refine Obs.cons (Ob.new _ rfl rfl zeroP (by simp [pcs_length])) ?_
    refine Obs.cons (Ob.imm rfl (fun w => by kernel_rfl)) ?_
    exact Obs.nil
  obtain ⟨hf_b0, hr_b0⟩ := hD.bx 0 _ _ rfl
  replace hf_b0 := Nat.le_trans hW.2.2 hf_b0
  obtain ⟨hf_b1, ht_b1⟩ := hD.nw 1 _ _ rfl
  replace hf_b1 := Nat.le_trans hW.2.2 hf_b1
  replace hW := grown_trans hW hD.gr
  clear hD
  simp only [finAct, putAll, valsFrom, Plan.value, Act.put, List.setIfInBounds_toArray, List.set_cons_zero, List.set_cons_succ]
  replace hGl := hGl0.grown hW
  generalize β 0 = b0 at *
  generalize β (0 + 1) = b1 at *
  have hr_b0x : w1.rangeAt b0 0 (bl (x)) := rangeAt_left hr_b0
  have hr_b0y : w1.rangeAt b0 32 (bl (y)) := rangeAt_right 32 (bl_length _) hr_b0
  repeat ((fail_if_success (with_reducible show Code.wp _ (Code.region _ _ _) _ _ _)); go_step)
  refine wp_plain [.val (pv (x) (y)), .val (.bool true), .imm (.bool false)] (by kernel_rfl) (fun β => ?_) (fun β w2 hD => ?_)
  · refine Obs.cons (Ob.load (b0) 0 (pcs (x) (y)) rfl rfl (by kernel_rfl) hr_b0 Tryd.underlying37 rfl (by rw [pcs_length]; exact infoP)) ?_
    refine Obs.cons (Ob.call 34 #[pv (x) (y)] rfl (fun w => by kernel_rfl) (fun w hg => On_is (x) (y) hx hy true (decide_eq_true ho) w (hGl.grown hg).g2)) ?_
    refine Obs.cons (Ob.imm rfl (fun w => by kernel_rfl)) ?_
    exact Obs.nil
  replace hr_b0 := rangeAt_grown hr_b0 hD.gr
  replace hr_b0x := rangeAt_grown hr_b0x hD.gr
  replace hr_b0y := rangeAt_grown hr_b0y hD.gr
  replace ht_b1 := there_grown ht_b1 hD.gr
  replace hW := grown_trans hW hD.gr
  clear hD
  simp only [finAct, putAll, valsFrom, Plan.value, Act.put, List.setIfInBounds_toArray, List.set_cons_zero, List.set_cons_succ]
  replace hGl := hGl0.grown hW
  repeat ((fail_if_success (with_reducible show Code.wp _ (Code.region _ _ _) _ _ _)); go_step)
  refine wp_plain_fin [.val (pv (x) (y)), .val (iv (x) (y) (1) (fmul (x) (y))), .val (iv (dbX (x) (y) (1)) (dbY (x) (y)) (dbZ (x) (y) (1)) (dbT (x) (y))), .val (pv (fmul (dbX (x) (y) (1)) (inv (dbZ (x) (y) (1)))) (fmul (dbY (x) (y)) (inv (dbZ (x) (y) (1))))), .fin, .imm (.int .i64 (0))] (b1) 0 (fun _ => pcs (fmul (dbX (x) (y) (1)) (inv (dbZ (x) (y) (1)))) (fmul (dbY (x) (y)) (inv (dbZ (x) (y) (1))))) (by kernel_rfl) (fun β => ?_) (fun β w3 hD => ?_)
  · refine Obs.cons (Ob.load (b0) 0 (pcs (x) (y)) rfl rfl (by kernel_rfl) hr_b0 Tryd.underlying37 rfl (by rw [pcs_length]; exact infoP)) ?_
    refine Obs.cons (Ob.call 76 #[pv (x) (y)] rfl (fun w => by kernel_rfl) (fun w hg => innerOf_num (x) (y) hx hy w (hGl.grown hg).g2)) ?_
    refine Obs.cons (Ob.call 77 #[iv (x) (y) (1) (fmul (x) (y))] rfl (fun w => by kernel_rfl) (fun w hg => doubled_d (x) (y) (1) (fmul (x) (y)) hx hy (by decide) w)) ?_
    refine Obs.cons (Ob.call 78 #[iv (dbX (x) (y) (1)) (dbY (x) (y)) (dbZ (x) (y) (1)) (dbT (x) (y))] rfl (fun w => by kernel_rfl) (fun w hg => plain_num (dbX (x) (y) (1)) (dbY (x) (y)) (dbZ (x) (y) (1)) (dbT (x) (y)) (dbX_lt _ _ _) (dbY_lt _ _) (dbZ_lt _ _ _) w (hGl.grown hg).g0)) ?_
    refine Obs.cons (Ob.fin rfl (by rw [pcs_length]; exact ht_b1) rfl (by kernel_rfl) (by kernel_rfl) (by rw [pcs_length]; exact infoP) (pcs_one _ _)) ?_
    refine Obs.cons (Ob.imm rfl (fun w => by kernel_rfl)) ?_
    exact Obs.nil
  replace hr_b0 := rangeAt_grown hr_b0 hD.gr
  replace hr_b0x := rangeAt_grown hr_b0x hD.gr
  replace hr_b0y := rangeAt_grown hr_b0y hD.gr
  replace ht_b1 := there_grown ht_b1 hD.gr
  replace hW := grown_trans hW hD.gr
  clear hD
  simp only [finAct, putAll, valsFrom, Plan.value, Act.put, List.setIfInBounds_toArray, List.set_cons_zero, List.set_cons_succ]
  replace hGl := hGl0.grown hW
  have hs3 := World.rangeAt_setCells_same w3 (b1) 0 (pcs (fmul (dbX (x) (y) (1)) (inv (dbZ (x) (y) (1)))) (fmul (dbY (x) (y)) (inv (dbZ (x) (y) (1))))) (by rw [pcs_length]; exact ht_b1)
  replace hW := grown_setCells hf_b1 (pcs (fmul (dbX (x) (y) (1)) (inv (dbZ (x) (y) (1)))) (fmul (dbY (x) (y)) (inv (dbZ (x) (y) (1))))) 0 hW
  generalize w3.setCells (b1) 0 (pcs (fmul (dbX (x) (y) (1)) (inv (dbZ (x) (y) (1)))) (fmul (dbY (x) (y)) (inv (dbZ (x) (y) (1))))) = w3s at *
  repeat go_step
  refine bodyPost_ret (v := .tuple #[pv (fmul (dbX (x) (y) (1)) (inv (dbZ (x) (y) (1)))) (fmul (dbY (x) (y)) (inv (dbZ (x) (y) (1)))), .int .i64 (0)]) (result_cell_tmp Tryd.results42 _ _ (b1) _ (.int .i64 (0)) ?hp ?hv hs3 Tryd.underlying37 rfl (by rw [pcs_length]; exact infoP)) ?hd ?_
  case hp => rfl
  case hv => rfl
  case hd => rfl
  exact ⟨rfl, hW⟩

set_option maxRecDepth 100000 in
set_option maxHeartbeats 2000000 in
theorem Double_0 (x y : Nat) (hx : x < M) (hy : y < M) (ho : ¬ isP x y) (w : World) (hGl0 : G2 w) :
    Calls Tryd.prog 42 #[pv x y] w fun ex w' => ex = .returned (.tuple #[pv 0 0, .int .i64 43]) ∧ Grown w w' := by
  have hW := Grown.refl w
  have hGl := hGl0
  go_enter Tryd.func42, Tryd.ntmps42
  repeat ((fail_if_success (with_reducible show Code.wp _ (Code.region _ _ _) _ _ _)); go_step)
  refine wp_plain [.box 37 (pcs (x) (y)), .new 37 64, .imm (.int .i64 (0))] (by kernel_rfl) (fun β => ?_) (fun β w1 hD => ?_)
  · refine Obs.cons (Ob.box rfl rfl (by kernel_rfl)) ?_
    refine Obs.cons (Ob.new _ rfl rfl zeroP (by simp [pcs_length])) ?_
    refine Obs.cons (Ob.imm rfl (fun w => by kernel_rfl)) ?_
    exact Obs.nil
  obtain ⟨hf_b0, hr_b0⟩ := hD.bx 0 _ _ rfl
  replace hf_b0 := Nat.le_trans hW.2.2 hf_b0
  obtain ⟨hf_b1, ht_b1⟩ := hD.nw 1 _ _ rfl
  replace hf_b1 := Nat.le_trans hW.2.2 hf_b1
  replace hW := grown_trans hW hD.gr
  clear hD
  simp only [finAct, putAll, valsFrom, Plan.value, Act.put, List.setIfInBounds_toArray, List.set_cons_zero, List.set_cons_succ]
  replace hGl := hGl0.grown hW
  generalize β 0 = b0 at *
  generalize β (0 + 1) = b1 at *
  have hr_b0x : w1.rangeAt b0 0 (bl (x)) := rangeAt_left hr_b0
  have hr_b0y : w1.rangeAt b0 32 (bl (y)) := rangeAt_right 32 (bl_length _) hr_b0
  repeat ((fail_if_success (with_reducible show Code.wp _ (Code.region _ _ _) _ _ _)); go_step)
  refine wp_plain [.val (pv (x) (y)), .val (.bool false), .imm (.bool true)] (by kernel_rfl) (fun β => ?_) (fun β w2 hD => ?_)
  · refine Obs.cons (Ob.load (b0) 0 (pcs (x) (y)) rfl rfl (by kernel_rfl) hr_b0 Tryd.underlying37 rfl (by rw [pcs_length]; exact infoP)) ?_
    refine Obs.cons (Ob.call 34 #[pv (x) (y)] rfl (fun w => by kernel_rfl) (fun w hg => On_is (x) (y) hx hy false (decide_eq_false ho) w (hGl.grown hg).g2)) ?_
    refine Obs.cons (Ob.imm rfl (fun w => by kernel_rfl)) ?_
    exact Obs.nil
  replace hr_b0 := rangeAt_grown hr_b0 hD.gr
  replace hr_b0x := rangeAt_grown hr_b0x hD.gr
  replace hr_b0y := rangeAt_grown hr_b0y hD.gr
  replace ht_b1 := there_grown ht_b1 hD.gr
  replace hW := grown_trans hW hD.gr
  clear hD
  simp only [finAct, putAll, valsFrom, Plan.value, Act.put, List.setIfInBounds_toArray, List.set_cons_zero, List.set_cons_succ]
  replace hGl := hGl0.grown hW
  repeat ((fail_if_success (with_reducible show Code.wp _ (Code.region _ _ _) _ _ _)); go_step)
  refine wp_plain_fin [.imm (pv (0) (0)), .fin, .imm (.int .i64 (43))] (b1) 0 (fun _ => pcs (0) (0)) (by kernel_rfl) (fun β => ?_) (fun β w3 hD => ?_)
  · refine Obs.cons (Ob.imm rfl (fun w => exec_build rfl (by kernel_rfl) (build_pt0 w))) ?_
    refine Obs.cons (Ob.fin rfl (by rw [pcs_length]; exact ht_b1) rfl (by kernel_rfl) (by kernel_rfl) (by rw [pcs_length]; exact infoP) (pcs_one _ _)) ?_
    refine Obs.cons (Ob.imm rfl (fun w => by kernel_rfl)) ?_
    exact Obs.nil
  replace hr_b0 := rangeAt_grown hr_b0 hD.gr
  replace hr_b0x := rangeAt_grown hr_b0x hD.gr
  replace hr_b0y := rangeAt_grown hr_b0y hD.gr
  replace ht_b1 := there_grown ht_b1 hD.gr
  replace hW := grown_trans hW hD.gr
  clear hD
  simp only [finAct, putAll, valsFrom, Plan.value, Act.put, List.setIfInBounds_toArray, List.set_cons_zero, List.set_cons_succ]
  replace hGl := hGl0.grown hW
  have hs3 := World.rangeAt_setCells_same w3 (b1) 0 (pcs (0) (0)) (by rw [pcs_length]; exact ht_b1)
  replace hW := grown_setCells hf_b1 (pcs (0) (0)) 0 hW
  generalize w3.setCells (b1) 0 (pcs (0) (0)) = w3s at *
  repeat go_step
  refine bodyPost_ret (v := .tuple #[pv (0) (0), .int .i64 (43)]) (result_cell_tmp Tryd.results42 _ _ (b1) _ (.int .i64 (43)) ?hp ?hv hs3 Tryd.underlying37 rfl (by rw [pcs_length]; exact infoP)) ?hd ?_
  case hp => rfl
  case hv => rfl
  case hd => rfl
  exact ⟨rfl, hW⟩

set_option maxRecDepth 100000 in
set_option maxHeartbeats 2000000 in
theorem Base_num (w : World) : Calls Tryd.prog 24 #[] w fun ex w' => ex = .returned (pv Bx By) ∧ Grown w w' := by
  have hW := Grown.refl w
  go_enter Tryd.func24, Tryd.ntmps24
  repeat ((fail_if_success (with_reducible show Code.wp _ (Code.region _ _ _) _ _ _)); go_step)
  refine wp_plain [.new 37 64] (by kernel_rfl) (fun β => ?_) (fun β w1 hD => ?_)
  · refine Obs.cons (Ob.new _ rfl rfl zeroP (by simp [pcs_length])) ?_
    exact Obs.nil
  obtain ⟨hf_b0, ht_b0⟩ := hD.nw 0 _ _ rfl
  replace hf_b0 := Nat.le_trans hW.2.2 hf_b0
  replace hW := grown_trans hW hD.gr
  clear hD
  simp only [finAct, putAll, valsFrom, Plan.value, Act.put, List.setIfInBounds_toArray, List.set_cons_zero]
  generalize β 0 = b0 at *
  repeat ((fail_if_success (with_reducible show Code.wp _ (Code.region _ _ _) _ _ _)); go_step)
  refine wp_plain_fin [.imm (bv (Bx)), .imm (bv (By)), .imm (pv (Bx) (By)), .fin] (b0) 0 (fun _ => pcs (Bx) (By)) (by kernel_rfl) (fun β => ?_) (fun β w2 hD => ?_)
  · refine Obs.cons (Ob.imm rfl (fun w => by kernel_rfl)) ?_
    refine Obs.cons (Ob.imm rfl (fun w => by kernel_rfl)) ?_
    refine Obs.cons (Ob.imm rfl (fun w => exec_build rfl (by kernel_rfl) (build_pt _ _ w))) ?_
    refine Obs.cons (Ob.fin rfl (by rw [pcs_length]; exact ht_b0) rfl (by kernel_rfl) (by kernel_rfl) (by rw [pcs_length]; exact infoP) (pcs_one _ _)) ?_
    exact Obs.nil
  replace ht_b0 := there_grown ht_b0 hD.gr
  replace hW := grown_trans hW hD.gr
  clear hD
  simp only [finAct, putAll, valsFrom, Plan.value, Act.put, List.setIfInBounds_toArray, List.set_cons_zero, List.set_cons_succ]
  have hs2 := World.rangeAt_setCells_same w2 (b0) 0 (pcs (Bx) (By)) (by rw [pcs_length]; exact ht_b0)
  replace hW := grown_setCells hf_b0 (pcs (Bx) (By)) 0 hW
  generalize w2.setCells (b0) 0 (pcs (Bx) (By)) = w2s at *
  repeat go_step
  refine bodyPost_ret (v := pv (Bx) (By)) (result_cells Tryd.results24 _ _ (b0) _ ?hp hs2 Tryd.underlying37 rfl (by rw [pcs_length]; exact infoP)) ?hd ?_
  case hp => rfl
  case hd => rfl
  exact ⟨rfl, hW⟩

set_option maxRecDepth 100000 in
set_option maxHeartbeats 2000000 in
theorem Identity_num (w : World) : Calls Tryd.prog 22 #[] w fun ex w' => ex = .returned (pv 0 1) ∧ Grown w w' := by
  have hW := Grown.refl w
  go_enter Tryd.func22, Tryd.ntmps22
  repeat ((fail_if_success (with_reducible show Code.wp _ (Code.region _ _ _) _ _ _)); go_step)
  refine wp_plain [.new 37 64] (by kernel_rfl) (fun β => ?_) (fun β w1 hD => ?_)
  · refine Obs.cons (Ob.new _ rfl rfl zeroP (by simp [pcs_length])) ?_
    exact Obs.nil
  obtain ⟨hf_b0, ht_b0⟩ := hD.nw 0 _ _ rfl
  replace hf_b0 := Nat.le_trans hW.2.2 hf_b0
  replace hW := grown_trans hW hD.gr
  clear hD
  simp only [finAct, putAll, valsFrom, Plan.value, Act.put, List.setIfInBounds_toArray, List.set_cons_zero]
  generalize β 0 = b0 at *
  repeat ((fail_if_success (with_reducible show Code.wp _ (Code.region _ _ _) _ _ _)); go_step)
  refine wp_plain_fin [.imm (bv (1)), .imm (pv (0) (1)), .fin] (b0) 0 (fun _ => pcs (0) (1)) (by kernel_rfl) (fun β => ?_) (fun β w2 hD => ?_)
  · refine Obs.cons (Ob.imm rfl (fun w => by kernel_rfl)) ?_
    refine Obs.cons (Ob.imm rfl (fun w => exec_build rfl (by kernel_rfl) (build_ptY _ w))) ?_
    refine Obs.cons (Ob.fin rfl (by rw [pcs_length]; exact ht_b0) rfl (by kernel_rfl) (by kernel_rfl) (by rw [pcs_length]; exact infoP) (pcs_one _ _)) ?_
    exact Obs.nil
  replace ht_b0 := there_grown ht_b0 hD.gr
  replace hW := grown_trans hW hD.gr
  clear hD
  simp only [finAct, putAll, valsFrom, Plan.value, Act.put, List.setIfInBounds_toArray, List.set_cons_zero, List.set_cons_succ]
  have hs2 := World.rangeAt_setCells_same w2 (b0) 0 (pcs (0) (1)) (by rw [pcs_length]; exact ht_b0)
  replace hW := grown_setCells hf_b0 (pcs (0) (1)) 0 hW
  generalize w2.setCells (b0) 0 (pcs (0) (1)) = w2s at *
  repeat go_step
  refine bodyPost_ret (v := pv (0) (1)) (result_cells Tryd.results22 _ _ (b0) _ ?hp hs2 Tryd.underlying37 rfl (by rw [pcs_length]; exact infoP)) ?hd ?_
  case hp => rfl
  case hd => rfl
  exact ⟨rfl, hW⟩

set_option maxRecDepth 100000 in
set_option maxHeartbeats 2000000 in
theorem num_is (n : Int) (w : World) : Calls Tryd.prog 32 #[.int .i64 n] w fun ex w' => ex = .returned (.int .i64 n) ∧ Grown w w' := by
  have hW := Grown.refl w
  go_enter Tryd.func32, Tryd.ntmps32
  repeat ((fail_if_success (with_reducible show Code.wp _ (Code.region _ _ _) _ _ _)); go_step)
  refine wp_plain [.imm (.int .i64 (0))] (by kernel_rfl) (fun β => ?_) (fun β w1 hD => ?_)
  · refine Obs.cons (Ob.imm rfl (fun w => by kernel_rfl)) ?_
    exact Obs.nil
  replace hW := grown_trans hW hD.gr
  clear hD
  simp only [finAct, putAll, valsFrom, Plan.value, Act.put, List.setIfInBounds_toArray, List.set_cons_zero, List.set_cons_succ]
  repeat ((fail_if_success (with_reducible show Code.wp _ (Code.region _ _ _) _ _ _)); go_step)
  refine wp_plain [.imm (.int .i64 (n)), .imm (.int .i64 (n))] (by kernel_rfl) (fun β => ?_) (fun β w2 hD => ?_)
  · refine Obs.cons (Ob.imm rfl (fun w => by kernel_rfl)) ?_
    refine Obs.cons (Ob.imm rfl (fun w => by kernel_rfl)) ?_
    exact Obs.nil
  replace hW := grown_trans hW hD.gr
  clear hD
  simp only [finAct, putAll, valsFrom, Plan.value, Act.put, List.setIfInBounds_toArray, List.set_cons_zero, List.set_cons_succ]
  repeat go_step
  go_ret
  exact ⟨rfl, hW⟩

end Go.Proofs.YtoimglbjepppmaaDoor

