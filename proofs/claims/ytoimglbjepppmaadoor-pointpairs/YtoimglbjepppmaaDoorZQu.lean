import Derived.Test.YtoimglbjepppmaaDoorZQz
import Derived.Test.YtoimglbjepppmaaDoorZPg
namespace FieldNum
theorem on_dec {x y xx yy m e r l : Nat} (hxx : xx % p = x * x % p) (hyy : yy % p = y * y % p) (hm : m % p = xx * yy % p) (he : e % p = dd * m % p) (hr : r % p = (1 + e) % p) (hl : l % p = sb yy xx) : decide (l % p = r % p) = decide (onc x y) := by
  have hl' : l % p = sb (y * y % p) (x * x % p) := by rw [hl, ← sb_mod, ← sb_mod', hyy, hxx]
  have hm' : m % p = (x * x % p) * (y * y % p) % p := by rw [hm]; exact mcong (hxx.trans (mm _).symm) (hyy.trans (mm _).symm)
  have he' : e % p = dd * ((x * x % p) * (y * y % p) % p) % p := by rw [he]; exact mcong rfl (hm'.trans (mm _).symm)
  have hr' : r % p = (1 + dd * ((x * x % p) * (y * y % p) % p) % p) % p := by rw [hr]; exact acong rfl (he'.trans (mm _).symm)
  rw [hl', hr']
end FieldNum
namespace Go.Proofs.YtoimglbjepppmaaDoor
open Go.RowKit Go.Shelf FieldNum

set_option maxRecDepth 100000 in
set_option maxHeartbeats 2000000 in
theorem on_r (x y : Nat) (hx : x < H) (hy : y < H) (bb : Bool) (h : decide (onc x y) = bb) (w : World) (hGl0 : GR w) : Calls Tryd.prog 75 #[rn x, rn y] w fun e w' => e = .returned (.bool bb) ∧ Grown w w' := by
  have hW := Grown.refl w
  have hGl := hGl0
  go_enter Tryd.func75, Tryd.ntmps75
  repeat ((fail_if_success (with_reducible show Code.wp _ (Code.region _ _ _) _ _ _)); go_step)
  refine wp_plain [.box 77 (rl (d15 (x))), .box 77 (rl (d15 (y))), .imm (.bool false)] (by kernel_rfl) (fun β => ?_) (fun β w1 hD => ?_)
  · refine Obs.cons (Ob.box rfl rfl (by kernel_rfl)) ?_
    refine Obs.cons (Ob.box rfl rfl (by kernel_rfl)) ?_
    refine Obs.cons (Ob.imm rfl (fun w => by kernel_rfl)) ?_
    exact Obs.nil
  obtain ⟨hf_b0, hr_b0⟩ := hD.bx 0 _ _ rfl
  replace hf_b0 := Nat.le_trans hW.2.2 hf_b0
  obtain ⟨hf_b1, hr_b1⟩ := hD.bx 1 _ _ rfl
  replace hf_b1 := Nat.le_trans hW.2.2 hf_b1
  replace hW := grown_trans hW hD.gr
  clear hD
  simp only [finAct, putAll, valsFrom, Plan.value, Act.put, List.setIfInBounds_toArray, List.set_cons_zero, List.set_cons_succ]
  replace hGl := hGl0.grown hW
  generalize β 0 = b0 at *
  generalize β (0 + 1) = b1 at *
  repeat ((fail_if_success (with_reducible show Code.wp _ (Code.region _ _ _) _ _ _)); go_step)
  refine wp_plain [.val (rn (x)), .val (rn (x)), .any (fun z => rn (z)) [] (fun l z => z < H ∧ z % p = (x) * (x) % p), .new 77 17, .put 3 2 (fun z => rl (d15 (z)))] (by kernel_rfl) (fun β => ?_) (fun β w2 hD => ?_)
  · refine Obs.cons (Ob.load (b0) 0 (rl (d15 (x))) rfl rfl (by kernel_rfl) hr_b0 Tryd.underlying77 rfl (by rw [rl_length]; exact infoR)) ?_
    refine Obs.cons (Ob.load (b0) 0 (rl (d15 (x))) rfl rfl (by kernel_rfl) hr_b0 Tryd.underlying77 rfl (by rw [rl_length]; exact infoR)) ?_
    refine Obs.cons (Ob.any 68 #[rn (x), rn (x)] rfl (fun w => by kernel_rfl) (fun hk w hg => times_r (x) (x) hx hx w)) ?_
    refine Obs.cons (Ob.new _ rfl rfl zeroR (by simp [rl_length])) ?_
    refine Obs.cons (Ob.put 77 rfl rfl rfl (by kernel_rfl) (by kernel_rfl) (by rw [rl_length]; exact infoR) (rl_one _)) ?_
    exact Obs.nil
  replace hr_b0 := rangeAt_grown hr_b0 hD.gr
  replace hr_b1 := rangeAt_grown hr_b1 hD.gr
  obtain ⟨hf_b2, ht_b2⟩ := hD.nw 3 _ _ rfl
  have hr_b2 : w2.rangeAt (β 3) 0 (rl (d15 (β 2))) := hD.rg 4 3 2 (fun z => rl (d15 (z))) rfl
  replace hf_b2 := Nat.le_trans hW.2.2 hf_b2
  have hz2_2 : (β 2) < H ∧ (β 2) % p = (x) * (x) % p := hD.an 2 _ _ _ rfl
  replace hW := grown_trans hW hD.gr
  clear hD
  simp only [finAct, putAll, valsFrom, Plan.value, Act.put, List.setIfInBounds_toArray, List.set_cons_zero, List.set_cons_succ]
  replace hGl := hGl0.grown hW
  generalize β (0 + 1 + 1 + 1) = b2 at *
  generalize β (0 + 1 + 1) = z2_2 at *
  have hq2_2 := Hid.of hz2_2.2
  replace hz2_2 := hz2_2.1
  repeat ((fail_if_success (with_reducible show Code.wp _ (Code.region _ _ _) _ _ _)); go_step)
  refine wp_plain [.val (rn (y)), .val (rn (y)), .any (fun z => rn (z)) [] (fun l z => z < H ∧ z % p = (y) * (y) % p), .new 77 17, .put 3 2 (fun z => rl (d15 (z)))] (by kernel_rfl) (fun β => ?_) (fun β w3 hD => ?_)
  · refine Obs.cons (Ob.load (b1) 0 (rl (d15 (y))) rfl rfl (by kernel_rfl) hr_b1 Tryd.underlying77 rfl (by rw [rl_length]; exact infoR)) ?_
    refine Obs.cons (Ob.load (b1) 0 (rl (d15 (y))) rfl rfl (by kernel_rfl) hr_b1 Tryd.underlying77 rfl (by rw [rl_length]; exact infoR)) ?_
    refine Obs.cons (Ob.any 68 #[rn (y), rn (y)] rfl (fun w => by kernel_rfl) (fun hk w hg => times_r (y) (y) hy hy w)) ?_
    refine Obs.cons (Ob.new _ rfl rfl zeroR (by simp [rl_length])) ?_
    refine Obs.cons (Ob.put 77 rfl rfl rfl (by kernel_rfl) (by kernel_rfl) (by rw [rl_length]; exact infoR) (rl_one _)) ?_
    exact Obs.nil
  replace hr_b0 := rangeAt_grown hr_b0 hD.gr
  replace hr_b1 := rangeAt_grown hr_b1 hD.gr
  replace hr_b2 := rangeAt_grown hr_b2 hD.gr
  replace ht_b2 := there_grown ht_b2 hD.gr
  obtain ⟨hf_b3, ht_b3⟩ := hD.nw 3 _ _ rfl
  have hr_b3 : w3.rangeAt (β 3) 0 (rl (d15 (β 2))) := hD.rg 4 3 2 (fun z => rl (d15 (z))) rfl
  replace hf_b3 := Nat.le_trans hW.2.2 hf_b3
  have hz3_2 : (β 2) < H ∧ (β 2) % p = (y) * (y) % p := hD.an 2 _ _ _ rfl
  replace hW := grown_trans hW hD.gr
  clear hD
  simp only [finAct, putAll, valsFrom, Plan.value, Act.put, List.setIfInBounds_toArray, List.set_cons_zero, List.set_cons_succ]
  replace hGl := hGl0.grown hW
  generalize β (0 + 1 + 1 + 1) = b3 at *
  generalize β (0 + 1 + 1) = z3_2 at *
  have hq3_2 := Hid.of hz3_2.2
  replace hz3_2 := hz3_2.1
  repeat ((fail_if_success (with_reducible show Code.wp _ (Code.region _ _ _) _ _ _)); go_step)
  replace hr_b0 := rangeAt_grown hr_b0 (gdrew w3)
  replace hr_b1 := rangeAt_grown hr_b1 (gdrew w3)
  replace hr_b2 := rangeAt_grown hr_b2 (gdrew w3)
  replace hr_b3 := rangeAt_grown hr_b3 (gdrew w3)
  replace ht_b2 := there_grown ht_b2 (gdrew w3)
  replace ht_b3 := there_grown ht_b3 (gdrew w3)
  replace hW := grown_trans hW (gdrew w3)
  replace hGl := hGl0.grown hW
  refine wp_loose [.val (rn (1)), .val (bv (dd)), .val (rn (dd)), .val (rn (z2_2)), .val (rn (z3_2)), .any (fun z => rn (z)) [] (fun l z => z < H ∧ z % p = (z2_2) * (z3_2) % p), .any (fun z => rn (z)) [5] (fun l z => z < H ∧ z % p = (dd) * (l.getD 0 0) % p), .any (fun z => rn (z)) [6] (fun l z => z < H ∧ z % p = ((1) + (l.getD 0 0)) % p), .new 77 17, .put 8 7 (fun z => rl (d15 (z)))] (by kernel_rfl) (by kernel_rfl) (fun β => ?_) (fun β w4 hD => ?_)
  · refine Obs.cons (Ob.call 60 #[.int .i64 (1)] rfl (fun w => by kernel_rfl) (fun w hg => small_v 1 (by decide) 1 rfl w)) ?_
    refine Obs.cons (Ob.load (1) 0 (bl (dd)) rfl rfl (by kernel_rfl) hGl.rd Tryd.underlying23 rfl (by rw [bl_length]; exact info32)) ?_
    refine Obs.cons (Ob.call 63 #[bv (dd)] rfl (fun w => by kernel_rfl) (fun w hg => read_d w)) ?_
    refine Obs.cons (Ob.load (b2) 0 (rl (d15 (z2_2))) rfl rfl (by kernel_rfl) hr_b2 Tryd.underlying77 rfl (by rw [rl_length]; exact infoR)) ?_
    refine Obs.cons (Ob.load (b3) 0 (rl (d15 (z3_2))) rfl rfl (by kernel_rfl) hr_b3 Tryd.underlying77 rfl (by rw [rl_length]; exact infoR)) ?_
    refine Obs.cons (Ob.any 68 #[rn (z2_2), rn (z3_2)] rfl (fun w => by kernel_rfl) (fun hk w hg => times_r (z2_2) (z3_2) hz2_2 hz3_2 w)) ?_
    refine Obs.cons (Ob.any 68 #[rn (dd), rn (β 5)] rfl (fun w => by kernel_rfl) (fun hk w hg => times_r (dd) (β 5) dd_H (hk 5 _ _ _ rfl (bindsTo_spec (by kernel_rfl))).1 w)) ?_
    refine Obs.cons (Ob.any 69 #[rn (1), rn (β 6)] rfl (fun w => by kernel_rfl) (fun hk w hg => plus_r (1) (β 6) (by decide) (hk 6 _ _ _ rfl (bindsTo_spec (by kernel_rfl))).1 w)) ?_
    refine Obs.cons (Ob.new _ rfl rfl zeroR (by simp [rl_length])) ?_
    refine Obs.cons (Ob.put 77 rfl rfl rfl (by kernel_rfl) (by kernel_rfl) (by rw [rl_length]; exact infoR) (rl_one _)) ?_
    exact Obs.nil
  replace hr_b0 := rangeAt_grown hr_b0 hD.gr
  replace hr_b1 := rangeAt_grown hr_b1 hD.gr
  replace hr_b2 := rangeAt_grown hr_b2 hD.gr
  replace hr_b3 := rangeAt_grown hr_b3 hD.gr
  replace ht_b2 := there_grown ht_b2 hD.gr
  replace ht_b3 := there_grown ht_b3 hD.gr
  obtain ⟨hf_b4, ht_b4⟩ := hD.nw 8 _ _ rfl
  have hr_b4 : w4.rangeAt (β 8) 0 (rl (d15 (β 7))) := hD.rg 9 8 7 (fun z => rl (d15 (z))) rfl
  replace hf_b4 := Nat.le_trans hW.2.2 hf_b4
  have hz4_5 : (β 5) < H ∧ (β 5) % p = (z2_2) * (z3_2) % p := hD.an 5 _ _ _ rfl
  have hz4_6 : (β 6) < H ∧ (β 6) % p = (dd) * (β 5) % p := hD.an 6 _ _ _ rfl
  have hz4_7 : (β 7) < H ∧ (β 7) % p = ((1) + (β 6)) % p := hD.an 7 _ _ _ rfl
  replace hW := grown_trans hW hD.gr
  clear hD
  simp only [finAct, putAll, valsFrom, Plan.value, Act.put, List.setIfInBounds_toArray, List.set_cons_zero, List.set_cons_succ]
  replace hGl := hGl0.grown hW
  generalize β (0 + 1 + 1 + 1 + 1 + 1 + 1 + 1 + 1) = b4 at *
  generalize β (0 + 1 + 1 + 1 + 1 + 1) = z4_5 at *
  generalize β (0 + 1 + 1 + 1 + 1 + 1 + 1) = z4_6 at *
  generalize β (0 + 1 + 1 + 1 + 1 + 1 + 1 + 1) = z4_7 at *
  have hq4_5 := Hid.of hz4_5.2
  replace hz4_5 := hz4_5.1
  have hq4_6 := Hid.of hz4_6.2
  replace hz4_6 := hz4_6.1
  have hq4_7 := Hid.of hz4_7.2
  replace hz4_7 := hz4_7.1
  repeat ((fail_if_success (with_reducible show Code.wp _ (Code.region _ _ _) _ _ _)); go_step)
  replace hr_b0 := rangeAt_grown hr_b0 (gdrew w4)
  replace hr_b1 := rangeAt_grown hr_b1 (gdrew w4)
  replace hr_b2 := rangeAt_grown hr_b2 (gdrew w4)
  replace hr_b3 := rangeAt_grown hr_b3 (gdrew w4)
  replace hr_b4 := rangeAt_grown hr_b4 (gdrew w4)
  replace ht_b2 := there_grown ht_b2 (gdrew w4)
  replace ht_b3 := there_grown ht_b3 (gdrew w4)
  replace ht_b4 := there_grown ht_b4 (gdrew w4)
  replace hW := grown_trans hW (gdrew w4)
  replace hGl := hGl0.grown hW
  refine wp_loose [.val (rn (z3_2)), .val (rn (z2_2)), .any (fun z => rn (z)) [] (fun l z => z < H ∧ z % p = sb (z3_2) (z2_2)), .val (rn (z4_7)), .val (.bool bb), .imm (.bool bb)] (by kernel_rfl) (by kernel_rfl) (fun β => ?_) (fun β w5 hD => ?_)
  · refine Obs.cons (Ob.load (b3) 0 (rl (d15 (z3_2))) rfl rfl (by kernel_rfl) hr_b3 Tryd.underlying77 rfl (by rw [rl_length]; exact infoR)) ?_
    refine Obs.cons (Ob.load (b2) 0 (rl (d15 (z2_2))) rfl rfl (by kernel_rfl) hr_b2 Tryd.underlying77 rfl (by rw [rl_length]; exact infoR)) ?_
    refine Obs.cons (Ob.any 71 #[rn (z3_2), rn (z2_2)] rfl (fun w => by kernel_rfl) (fun hk w hg => minus_r (z3_2) (z2_2) hz3_2 hz2_2 w)) ?_
    refine Obs.cons (Ob.load (b4) 0 (rl (d15 (z4_7))) rfl rfl (by kernel_rfl) hr_b4 Tryd.underlying77 rfl (by rw [rl_length]; exact infoR)) ?_
    refine Obs.cons (Ob.call' 62 #[rn (β 2), rn (z4_7)] rfl (fun w => by kernel_rfl) (fun hk w hg => equal_is (β 2) (z4_7) (hk 2 _ _ _ rfl (bindsTo_spec (by kernel_rfl))).1 hz4_7 bb ((on_dec hq2_2.out hq3_2.out hq4_5.out hq4_6.out hq4_7.out (hk 2 _ _ _ rfl (bindsTo_spec (by kernel_rfl))).2).trans h) w)) ?_
    refine Obs.cons (Ob.imm rfl (fun w => by kernel_rfl)) ?_
    exact Obs.nil
  replace hr_b0 := rangeAt_grown hr_b0 hD.gr
  replace hr_b1 := rangeAt_grown hr_b1 hD.gr
  replace hr_b2 := rangeAt_grown hr_b2 hD.gr
  replace hr_b3 := rangeAt_grown hr_b3 hD.gr
  replace hr_b4 := rangeAt_grown hr_b4 hD.gr
  replace ht_b2 := there_grown ht_b2 hD.gr
  replace ht_b3 := there_grown ht_b3 hD.gr
  replace ht_b4 := there_grown ht_b4 hD.gr
  have hz5_2 : (β 2) < H ∧ (β 2) % p = sb (z3_2) (z2_2) := hD.an 2 _ _ _ rfl
  replace hW := grown_trans hW hD.gr
  clear hD
  simp only [finAct, putAll, valsFrom, Plan.value, Act.put, List.setIfInBounds_toArray, List.set_cons_zero, List.set_cons_succ]
  replace hGl := hGl0.grown hW
  generalize β (0 + 1 + 1) = z5_2 at *
  have hq5_2 := Hid.of hz5_2.2
  replace hz5_2 := hz5_2.1
  repeat go_step
  go_ret
  exact ⟨rfl, hW⟩

theorem lt_H {x : Nat} (h : x < p) : x < H := Nat.lt_trans h (by decide)
theorem read_c (x : Nat) (h : x < p) (w : World) : Calls Tryd.prog 63 #[bv x] w fun e w' => e = .returned (rn x) ∧ Grown w w' := by
  have := read_r x w
  rwa [Nat.mod_eq_of_lt (lt_H h)] at this

set_option maxRecDepth 100000 in
set_option maxHeartbeats 2000000 in
theorem OnR_x (x y : Nat) (hx : x < M) (_hy : y < M) (hcx : ¬ x < p) (w : World) (hGl0 : GR w) :
    Calls Tryd.prog 38 #[pv x y] w fun ex w' => ex = .returned (.bool false) ∧ Grown w w' := by
  have hW := Grown.refl w
  have hGl := hGl0
  go_enter Tryd.func38, Tryd.ntmps38
  repeat ((fail_if_success (with_reducible show Code.wp _ (Code.region _ _ _) _ _ _)); go_step)
  refine wp_plain [.box 39 (pcs (x) (y)), .imm (.bool false)] (by kernel_rfl) (fun β => ?_) (fun β w1 hD => ?_)
  · refine Obs.cons (Ob.box rfl rfl (by kernel_rfl)) ?_
    refine Obs.cons (Ob.imm rfl (fun w => by kernel_rfl)) ?_
    exact Obs.nil
  obtain ⟨hf_b0, hr_b0⟩ := hD.bx 0 _ _ rfl
  replace hf_b0 := Nat.le_trans hW.2.2 hf_b0
  replace hW := grown_trans hW hD.gr
  clear hD
  simp only [finAct, putAll, valsFrom, Plan.value, Act.put, List.setIfInBounds_toArray, List.set_cons_zero, List.set_cons_succ]
  replace hGl := hGl0.grown hW
  generalize β 0 = b0 at *
  have hr_b0x : w1.rangeAt b0 0 (bl (x)) := rangeAt_left hr_b0
  have hr_b0y : w1.rangeAt b0 32 (bl (y)) := rangeAt_right 32 (bl_length _) hr_b0
  repeat ((fail_if_success (with_reducible show Code.wp _ (Code.region _ _ _) _ _ _)); go_step)
  refine wp_plain [.imm (.pointer (some ⟨b0, 0, none⟩)), .val (bv (x)), .val (.bool false), .imm (.bool true), .imm (.bool true), .skip, .skip, .skip, .skip, .imm (.bool true)] (by kernel_rfl) (fun β => ?_) (fun β w2 hD => ?_)
  · refine Obs.cons (Ob.imm rfl (fun w => by kernel_rfl)) ?_
    refine Obs.cons (Ob.load (b0) 0 (bl (x)) rfl rfl (by kernel_rfl) hr_b0x Tryd.underlying23 rfl (by rw [bl_length]; exact info32)) ?_
    refine Obs.cons (Ob.call 67 #[bv (x)] rfl (fun w => by kernel_rfl) (fun w hg => canonR0 (x) hx hcx w)) ?_
    refine Obs.cons (Ob.imm rfl (fun w => by kernel_rfl)) ?_
    refine Obs.cons (Ob.imm rfl (fun w => by kernel_rfl)) ?_
    refine Obs.cons (Ob.skip (by kernel_rfl)) ?_
    refine Obs.cons (Ob.skip (by kernel_rfl)) ?_
    refine Obs.cons (Ob.skip (by kernel_rfl)) ?_
    refine Obs.cons (Ob.skip (by kernel_rfl)) ?_
    refine Obs.cons (Ob.imm rfl (fun w => by kernel_rfl)) ?_
    exact Obs.nil
  replace hr_b0 := rangeAt_grown hr_b0 hD.gr
  replace hr_b0x := rangeAt_grown hr_b0x hD.gr
  replace hr_b0y := rangeAt_grown hr_b0y hD.gr
  replace hW := grown_trans hW hD.gr
  clear hD
  simp only [finAct, putAll, valsFrom, Plan.value, Act.put, List.setIfInBounds_toArray, List.set_cons_zero, List.set_cons_succ]
  replace hGl := hGl0.grown hW
  repeat ((fail_if_success (with_reducible show Code.wp _ (Code.region _ _ _) _ _ _)); go_step)
  refine wp_plain [.imm (.bool false)] (by kernel_rfl) (fun β => ?_) (fun β w3 hD => ?_)
  · refine Obs.cons (Ob.imm rfl (fun w => by kernel_rfl)) ?_
    exact Obs.nil
  replace hr_b0 := rangeAt_grown hr_b0 hD.gr
  replace hr_b0x := rangeAt_grown hr_b0x hD.gr
  replace hr_b0y := rangeAt_grown hr_b0y hD.gr
  replace hW := grown_trans hW hD.gr
  clear hD
  simp only [finAct, putAll, valsFrom, Plan.value, Act.put, List.setIfInBounds_toArray, List.set_cons_zero, List.set_cons_succ]
  replace hGl := hGl0.grown hW
  repeat go_step
  go_ret
  exact ⟨rfl, hW⟩

set_option maxRecDepth 100000 in
set_option maxHeartbeats 2000000 in
theorem OnR_y (x y : Nat) (hx : x < M) (hy : y < M) (hcx : x < p) (hcy : ¬ y < p) (w : World) (hGl0 : GR w) :
    Calls Tryd.prog 38 #[pv x y] w fun ex w' => ex = .returned (.bool false) ∧ Grown w w' := by
  have hW := Grown.refl w
  have hGl := hGl0
  go_enter Tryd.func38, Tryd.ntmps38
  repeat ((fail_if_success (with_reducible show Code.wp _ (Code.region _ _ _) _ _ _)); go_step)
  refine wp_plain [.box 39 (pcs (x) (y)), .imm (.bool false)] (by kernel_rfl) (fun β => ?_) (fun β w1 hD => ?_)
  · refine Obs.cons (Ob.box rfl rfl (by kernel_rfl)) ?_
    refine Obs.cons (Ob.imm rfl (fun w => by kernel_rfl)) ?_
    exact Obs.nil
  obtain ⟨hf_b0, hr_b0⟩ := hD.bx 0 _ _ rfl
  replace hf_b0 := Nat.le_trans hW.2.2 hf_b0
  replace hW := grown_trans hW hD.gr
  clear hD
  simp only [finAct, putAll, valsFrom, Plan.value, Act.put, List.setIfInBounds_toArray, List.set_cons_zero, List.set_cons_succ]
  replace hGl := hGl0.grown hW
  generalize β 0 = b0 at *
  have hr_b0x : w1.rangeAt b0 0 (bl (x)) := rangeAt_left hr_b0
  have hr_b0y : w1.rangeAt b0 32 (bl (y)) := rangeAt_right 32 (bl_length _) hr_b0
  repeat ((fail_if_success (with_reducible show Code.wp _ (Code.region _ _ _) _ _ _)); go_step)
  refine wp_plain [.imm (.pointer (some ⟨b0, 0, none⟩)), .val (bv (x)), .val (.bool true), .imm (.bool false), .imm (.bool false), .imm (.pointer (some ⟨b0, 32, none⟩)), .val (bv (y)), .val (.bool false), .imm (.bool true), .imm (.bool true)] (by kernel_rfl) (fun β => ?_) (fun β w2 hD => ?_)
  · refine Obs.cons (Ob.imm rfl (fun w => by kernel_rfl)) ?_
    refine Obs.cons (Ob.load (b0) 0 (bl (x)) rfl rfl (by kernel_rfl) hr_b0x Tryd.underlying23 rfl (by rw [bl_length]; exact info32)) ?_
    refine Obs.cons (Ob.call 67 #[bv (x)] rfl (fun w => by kernel_rfl) (fun w hg => canonR1 (x) hx hcx w)) ?_
    refine Obs.cons (Ob.imm rfl (fun w => by kernel_rfl)) ?_
    refine Obs.cons (Ob.imm rfl (fun w => by kernel_rfl)) ?_
    refine Obs.cons (Ob.imm (by kernel_rfl) (fun w => by kernel_rfl)) ?_
    refine Obs.cons (Ob.load (b0) 32 (bl (y)) (by kernel_rfl) rfl (by kernel_rfl) hr_b0y Tryd.underlying23 rfl (by rw [bl_length]; exact info32)) ?_
    refine Obs.cons (Ob.call 67 #[bv (y)] (by kernel_rfl) (fun w => by kernel_rfl) (fun w hg => canonR0 (y) hy hcy w)) ?_
    refine Obs.cons (Ob.imm (by kernel_rfl) (fun w => by kernel_rfl)) ?_
    refine Obs.cons (Ob.imm rfl (fun w => by kernel_rfl)) ?_
    exact Obs.nil
  replace hr_b0 := rangeAt_grown hr_b0 hD.gr
  replace hr_b0x := rangeAt_grown hr_b0x hD.gr
  replace hr_b0y := rangeAt_grown hr_b0y hD.gr
  replace hW := grown_trans hW hD.gr
  clear hD
  simp only [finAct, putAll, valsFrom, Plan.value, Act.put, List.setIfInBounds_toArray, List.set_cons_zero, List.set_cons_succ]
  replace hGl := hGl0.grown hW
  repeat ((fail_if_success (with_reducible show Code.wp _ (Code.region _ _ _) _ _ _)); go_step)
  refine wp_plain [.imm (.bool false)] (by kernel_rfl) (fun β => ?_) (fun β w3 hD => ?_)
  · refine Obs.cons (Ob.imm rfl (fun w => by kernel_rfl)) ?_
    exact Obs.nil
  replace hr_b0 := rangeAt_grown hr_b0 hD.gr
  replace hr_b0x := rangeAt_grown hr_b0x hD.gr
  replace hr_b0y := rangeAt_grown hr_b0y hD.gr
  replace hW := grown_trans hW hD.gr
  clear hD
  simp only [finAct, putAll, valsFrom, Plan.value, Act.put, List.setIfInBounds_toArray, List.set_cons_zero, List.set_cons_succ]
  replace hGl := hGl0.grown hW
  repeat go_step
  go_ret
  exact ⟨rfl, hW⟩

set_option maxRecDepth 100000 in
set_option maxHeartbeats 2000000 in
theorem OnR_1 (x y : Nat) (hx : x < M) (hy : y < M) (hcx : x < p) (hcy : y < p) (ho : onc x y) (w : World) (hGl0 : GR w) :
    Calls Tryd.prog 38 #[pv x y] w fun ex w' => ex = .returned (.bool true) ∧ Grown w w' := by
  have hW := Grown.refl w
  have hGl := hGl0
  go_enter Tryd.func38, Tryd.ntmps38
  repeat ((fail_if_success (with_reducible show Code.wp _ (Code.region _ _ _) _ _ _)); go_step)
  refine wp_plain [.box 39 (pcs (x) (y)), .imm (.bool false)] (by kernel_rfl) (fun β => ?_) (fun β w1 hD => ?_)
  · refine Obs.cons (Ob.box rfl rfl (by kernel_rfl)) ?_
    refine Obs.cons (Ob.imm rfl (fun w => by kernel_rfl)) ?_
    exact Obs.nil
  obtain ⟨hf_b0, hr_b0⟩ := hD.bx 0 _ _ rfl
  replace hf_b0 := Nat.le_trans hW.2.2 hf_b0
  replace hW := grown_trans hW hD.gr
  clear hD
  simp only [finAct, putAll, valsFrom, Plan.value, Act.put, List.setIfInBounds_toArray, List.set_cons_zero, List.set_cons_succ]
  replace hGl := hGl0.grown hW
  generalize β 0 = b0 at *
  have hr_b0x : w1.rangeAt b0 0 (bl (x)) := rangeAt_left hr_b0
  have hr_b0y : w1.rangeAt b0 32 (bl (y)) := rangeAt_right 32 (bl_length _) hr_b0
  repeat ((fail_if_success (with_reducible show Code.wp _ (Code.region _ _ _) _ _ _)); go_step)
  refine wp_plain [.imm (.pointer (some ⟨b0, 0, none⟩)), .val (bv (x)), .val (.bool true), .imm (.bool false), .imm (.bool false), .imm (.pointer (some ⟨b0, 32, none⟩)), .val (bv (y)), .val (.bool true), .imm (.bool false), .imm (.bool false)] (by kernel_rfl) (fun β => ?_) (fun β w2 hD => ?_)
  · refine Obs.cons (Ob.imm rfl (fun w => by kernel_rfl)) ?_
    refine Obs.cons (Ob.load (b0) 0 (bl (x)) rfl rfl (by kernel_rfl) hr_b0x Tryd.underlying23 rfl (by rw [bl_length]; exact info32)) ?_
    refine Obs.cons (Ob.call 67 #[bv (x)] rfl (fun w => by kernel_rfl) (fun w hg => canonR1 (x) hx hcx w)) ?_
    refine Obs.cons (Ob.imm rfl (fun w => by kernel_rfl)) ?_
    refine Obs.cons (Ob.imm rfl (fun w => by kernel_rfl)) ?_
    refine Obs.cons (Ob.imm (by kernel_rfl) (fun w => by kernel_rfl)) ?_
    refine Obs.cons (Ob.load (b0) 32 (bl (y)) (by kernel_rfl) rfl (by kernel_rfl) hr_b0y Tryd.underlying23 rfl (by rw [bl_length]; exact info32)) ?_
    refine Obs.cons (Ob.call 67 #[bv (y)] (by kernel_rfl) (fun w => by kernel_rfl) (fun w hg => canonR1 (y) hy hcy w)) ?_
    refine Obs.cons (Ob.imm (by kernel_rfl) (fun w => by kernel_rfl)) ?_
    refine Obs.cons (Ob.imm rfl (fun w => by kernel_rfl)) ?_
    exact Obs.nil
  replace hr_b0 := rangeAt_grown hr_b0 hD.gr
  replace hr_b0x := rangeAt_grown hr_b0x hD.gr
  replace hr_b0y := rangeAt_grown hr_b0y hD.gr
  replace hW := grown_trans hW hD.gr
  clear hD
  simp only [finAct, putAll, valsFrom, Plan.value, Act.put, List.setIfInBounds_toArray, List.set_cons_zero, List.set_cons_succ]
  replace hGl := hGl0.grown hW
  repeat ((fail_if_success (with_reducible show Code.wp _ (Code.region _ _ _) _ _ _)); go_step)
  replace hr_b0 := rangeAt_grown hr_b0 (gdrew w2)
  replace hr_b0x := rangeAt_grown hr_b0x (gdrew w2)
  replace hr_b0y := rangeAt_grown hr_b0y (gdrew w2)
  replace hW := grown_trans hW (gdrew w2)
  replace hGl := hGl0.grown hW
  refine wp_loose [.imm (.pointer (some ⟨b0, 0, none⟩)), .val (bv (x)), .val (rn (x)), .imm (.pointer (some ⟨b0, 32, none⟩)), .val (bv (y)), .val (rn (y)), .val (.bool true), .imm (.bool true)] (by kernel_rfl) (by kernel_rfl) (fun β => ?_) (fun β w3 hD => ?_)
  · refine Obs.cons (Ob.imm rfl (fun w => by kernel_rfl)) ?_
    refine Obs.cons (Ob.load (b0) 0 (bl (x)) rfl rfl (by kernel_rfl) hr_b0x Tryd.underlying23 rfl (by rw [bl_length]; exact info32)) ?_
    refine Obs.cons (Ob.call 63 #[bv (x)] rfl (fun w => by kernel_rfl) (fun w hg => read_c (x) hcx w)) ?_
    refine Obs.cons (Ob.imm rfl (fun w => by kernel_rfl)) ?_
    refine Obs.cons (Ob.load (b0) 32 (bl (y)) rfl rfl (by kernel_rfl) hr_b0y Tryd.underlying23 rfl (by rw [bl_length]; exact info32)) ?_
    refine Obs.cons (Ob.call 63 #[bv (y)] rfl (fun w => by kernel_rfl) (fun w hg => read_c (y) hcy w)) ?_
    refine Obs.cons (Ob.call 75 #[rn (x), rn (y)] rfl (fun w => by kernel_rfl) (fun w hg => on_r (x) (y) (lt_H hcx) (lt_H hcy) true (decide_eq_true ho) w (hGl.grown hg))) ?_
    refine Obs.cons (Ob.imm rfl (fun w => by kernel_rfl)) ?_
    exact Obs.nil
  replace hr_b0 := rangeAt_grown hr_b0 hD.gr
  replace hr_b0x := rangeAt_grown hr_b0x hD.gr
  replace hr_b0y := rangeAt_grown hr_b0y hD.gr
  replace hW := grown_trans hW hD.gr
  clear hD
  simp only [finAct, putAll, valsFrom, Plan.value, Act.put, List.setIfInBounds_toArray, List.set_cons_zero, List.set_cons_succ]
  replace hGl := hGl0.grown hW
  repeat go_step
  go_ret
  exact ⟨rfl, hW⟩

set_option maxRecDepth 100000 in
set_option maxHeartbeats 2000000 in
theorem OnR_0 (x y : Nat) (hx : x < M) (hy : y < M) (hcx : x < p) (hcy : y < p) (ho : ¬ onc x y) (w : World) (hGl0 : GR w) :
    Calls Tryd.prog 38 #[pv x y] w fun ex w' => ex = .returned (.bool false) ∧ Grown w w' := by
  have hW := Grown.refl w
  have hGl := hGl0
  go_enter Tryd.func38, Tryd.ntmps38
  repeat ((fail_if_success (with_reducible show Code.wp _ (Code.region _ _ _) _ _ _)); go_step)
  refine wp_plain [.box 39 (pcs (x) (y)), .imm (.bool false)] (by kernel_rfl) (fun β => ?_) (fun β w1 hD => ?_)
  · refine Obs.cons (Ob.box rfl rfl (by kernel_rfl)) ?_
    refine Obs.cons (Ob.imm rfl (fun w => by kernel_rfl)) ?_
    exact Obs.nil
  obtain ⟨hf_b0, hr_b0⟩ := hD.bx 0 _ _ rfl
  replace hf_b0 := Nat.le_trans hW.2.2 hf_b0
  replace hW := grown_trans hW hD.gr
  clear hD
  simp only [finAct, putAll, valsFrom, Plan.value, Act.put, List.setIfInBounds_toArray, List.set_cons_zero, List.set_cons_succ]
  replace hGl := hGl0.grown hW
  generalize β 0 = b0 at *
  have hr_b0x : w1.rangeAt b0 0 (bl (x)) := rangeAt_left hr_b0
  have hr_b0y : w1.rangeAt b0 32 (bl (y)) := rangeAt_right 32 (bl_length _) hr_b0
  repeat ((fail_if_success (with_reducible show Code.wp _ (Code.region _ _ _) _ _ _)); go_step)
  refine wp_plain [.imm (.pointer (some ⟨b0, 0, none⟩)), .val (bv (x)), .val (.bool true), .imm (.bool false), .imm (.bool false), .imm (.pointer (some ⟨b0, 32, none⟩)), .val (bv (y)), .val (.bool true), .imm (.bool false), .imm (.bool false)] (by kernel_rfl) (fun β => ?_) (fun β w2 hD => ?_)
  · refine Obs.cons (Ob.imm rfl (fun w => by kernel_rfl)) ?_
    refine Obs.cons (Ob.load (b0) 0 (bl (x)) rfl rfl (by kernel_rfl) hr_b0x Tryd.underlying23 rfl (by rw [bl_length]; exact info32)) ?_
    refine Obs.cons (Ob.call 67 #[bv (x)] rfl (fun w => by kernel_rfl) (fun w hg => canonR1 (x) hx hcx w)) ?_
    refine Obs.cons (Ob.imm rfl (fun w => by kernel_rfl)) ?_
    refine Obs.cons (Ob.imm rfl (fun w => by kernel_rfl)) ?_
    refine Obs.cons (Ob.imm (by kernel_rfl) (fun w => by kernel_rfl)) ?_
    refine Obs.cons (Ob.load (b0) 32 (bl (y)) (by kernel_rfl) rfl (by kernel_rfl) hr_b0y Tryd.underlying23 rfl (by rw [bl_length]; exact info32)) ?_
    refine Obs.cons (Ob.call 67 #[bv (y)] (by kernel_rfl) (fun w => by kernel_rfl) (fun w hg => canonR1 (y) hy hcy w)) ?_
    refine Obs.cons (Ob.imm (by kernel_rfl) (fun w => by kernel_rfl)) ?_
    refine Obs.cons (Ob.imm rfl (fun w => by kernel_rfl)) ?_
    exact Obs.nil
  replace hr_b0 := rangeAt_grown hr_b0 hD.gr
  replace hr_b0x := rangeAt_grown hr_b0x hD.gr
  replace hr_b0y := rangeAt_grown hr_b0y hD.gr
  replace hW := grown_trans hW hD.gr
  clear hD
  simp only [finAct, putAll, valsFrom, Plan.value, Act.put, List.setIfInBounds_toArray, List.set_cons_zero, List.set_cons_succ]
  replace hGl := hGl0.grown hW
  repeat ((fail_if_success (with_reducible show Code.wp _ (Code.region _ _ _) _ _ _)); go_step)
  replace hr_b0 := rangeAt_grown hr_b0 (gdrew w2)
  replace hr_b0x := rangeAt_grown hr_b0x (gdrew w2)
  replace hr_b0y := rangeAt_grown hr_b0y (gdrew w2)
  replace hW := grown_trans hW (gdrew w2)
  replace hGl := hGl0.grown hW
  refine wp_loose [.imm (.pointer (some ⟨b0, 0, none⟩)), .val (bv (x)), .val (rn (x)), .imm (.pointer (some ⟨b0, 32, none⟩)), .val (bv (y)), .val (rn (y)), .val (.bool false), .imm (.bool false)] (by kernel_rfl) (by kernel_rfl) (fun β => ?_) (fun β w3 hD => ?_)
  · refine Obs.cons (Ob.imm rfl (fun w => by kernel_rfl)) ?_
    refine Obs.cons (Ob.load (b0) 0 (bl (x)) rfl rfl (by kernel_rfl) hr_b0x Tryd.underlying23 rfl (by rw [bl_length]; exact info32)) ?_
    refine Obs.cons (Ob.call 63 #[bv (x)] rfl (fun w => by kernel_rfl) (fun w hg => read_c (x) hcx w)) ?_
    refine Obs.cons (Ob.imm rfl (fun w => by kernel_rfl)) ?_
    refine Obs.cons (Ob.load (b0) 32 (bl (y)) rfl rfl (by kernel_rfl) hr_b0y Tryd.underlying23 rfl (by rw [bl_length]; exact info32)) ?_
    refine Obs.cons (Ob.call 63 #[bv (y)] rfl (fun w => by kernel_rfl) (fun w hg => read_c (y) hcy w)) ?_
    refine Obs.cons (Ob.call 75 #[rn (x), rn (y)] rfl (fun w => by kernel_rfl) (fun w hg => on_r (x) (y) (lt_H hcx) (lt_H hcy) false (decide_eq_false ho) w (hGl.grown hg))) ?_
    refine Obs.cons (Ob.imm rfl (fun w => by kernel_rfl)) ?_
    exact Obs.nil
  replace hr_b0 := rangeAt_grown hr_b0 hD.gr
  replace hr_b0x := rangeAt_grown hr_b0x hD.gr
  replace hr_b0y := rangeAt_grown hr_b0y hD.gr
  replace hW := grown_trans hW hD.gr
  clear hD
  simp only [finAct, putAll, valsFrom, Plan.value, Act.put, List.setIfInBounds_toArray, List.set_cons_zero, List.set_cons_succ]
  replace hGl := hGl0.grown hW
  repeat go_step
  go_ret
  exact ⟨rfl, hW⟩

theorem OnR_is (x y : Nat) (hx : x < M) (hy : y < M) (b : Bool) (hb : decide (isP x y) = b) (w : World) (hGl0 : GR w) :
    Calls Tryd.prog 38 #[pv x y] w fun ex w' => ex = .returned (.bool b) ∧ Grown w w' := by
  subst hb
  by_cases h1 : x < p
  · by_cases h2 : y < p
    · by_cases h3 : onc x y
      · rw [decide_eq_true (show isP x y from ⟨h1, h2, h3⟩)]; exact OnR_1 x y hx hy h1 h2 h3 w hGl0
      · rw [decide_eq_false (show ¬ isP x y from fun h => h3 h.2.2)]; exact OnR_0 x y hx hy h1 h2 h3 w hGl0
    · rw [decide_eq_false (show ¬ isP x y from fun h => h2 h.2.1)]; exact OnR_y x y hx hy h1 h2 w hGl0
  · rw [decide_eq_false (show ¬ isP x y from fun h => h1 h.1)]; exact OnR_x x y hx hy h1 w hGl0
theorem exec_add8w {o : Oper} {ρ : Operand → Value} {x y : Operand} {t : TypeId} {w : World} (m n r : Nat) (ho : o.op = .binOp .add 5 x y t) (hx : ρ x = .int .u8 m) (hy : ρ y = .int .u8 n) (hr : IntKind.u8.wrap (m + n) = (r : Int)) : (execOp ρ o).run Tryd.prog w = .ok (.value (.int .u8 r)) w := by
  rw [← hr]
  unfold execOp
  simp only [ho, hx, hy]
  simp [go_sem]
theorem wrap8 {c : Nat} (h : c < 256) : IntKind.u8.wrap (c : Int) = (c : Int) := by
  unfold IntKind.wrap
  simp [IntKind.bits, IntKind.signed]
  omega
theorem Bit_p (x : Nat) (r : Nat) (h : x % 2 = r) (w : World) : Calls Tryd.prog 66 #[bv x, .int .i64 0] w fun e w' => e = .returned (.int .i64 (r : Int)) ∧ Grown w w' := by
  have := Bit_num x 0 (by decide) w
  rw [Nat.pow_zero, Nat.div_one, h] at this
  exact this

theorem top_add {y : Nat} (h : y < p) : IntKind.u8.wrap ((top y : Nat) + (128 : Nat)) = ((top (y + H) : Nat) : Int) := by
  have h1 : top y < 128 := (top_big (Nat.lt_trans h (by decide))).2 (lt_H h)
  have h2 : top (y + H) = top y + 128 := top_yH h
  rw [h2]
  exact wrap8 (c := top y + 128) (by omega)
theorem top_add0 (y : Nat) : IntKind.u8.wrap ((top y : Nat) + (0 : Nat)) = ((top y : Nat) : Int) := wrap8 (c := top y + 0) (top_lt y)
set_option maxRecDepth 100000 in
set_option maxHeartbeats 2000000 in
theorem ER_off (x y : Nat) (hx : x < M) (hy : y < M) (ho : ¬ isP x y) (w : World) (hGl0 : GR w) :
    Calls Tryd.prog 39 #[pv x y] w fun e w' => e = .returned (.tuple #[bv 0, .int .i64 43]) ∧ Grown w w' := by
  have hW := Grown.refl w
  have hGl := hGl0
  go_enter Tryd.func39, Tryd.ntmps39
  repeat ((fail_if_success (with_reducible show Code.wp _ (Code.region _ _ _) _ _ _)); go_step)
  refine wp_plain [.box 39 (pcs (x) (y)), .new 23 32, .imm (.int .i64 (0))] (by kernel_rfl) (fun β => ?_) (fun β w1 hD => ?_)
  · refine Obs.cons (Ob.box rfl rfl (by kernel_rfl)) ?_
    refine Obs.cons (Ob.new _ rfl rfl zero32.1 (by simp [bl_length])) ?_
    refine Obs.cons (Ob.imm rfl (fun w => by kernel_rfl)) ?_
    exact Obs.nil
  obtain ⟨hf_b0, hr_b0⟩ := hD.bx 0 _ _ rfl
  replace hf_b0 := Nat.le_trans hW.2.2 hf_b0
  obtain ⟨hf_b1, ht_b1⟩ := hD.nw 1 _ _ rfl
  replace hf_b1 := Nat.le_trans hW.2.2 hf_b1
  replace hW := grown_trans hW hD.gr
  clear hD
  simp only [finAct, putAll, valsFrom, Plan.value, Act.put, List.setIfInBounds_toArray, List.set_cons_zero, List.set_cons_succ]
  replace hGl := hGl0.grown hW
  generalize β 0 = b0 at *
  generalize β (0 + 1) = b1 at *
  have hr_b0x : w1.rangeAt b0 0 (bl (x)) := rangeAt_left hr_b0
  have hr_b0y : w1.rangeAt b0 32 (bl (y)) := rangeAt_right 32 (bl_length _) hr_b0
  repeat ((fail_if_success (with_reducible show Code.wp _ (Code.region _ _ _) _ _ _)); go_step)
  refine wp_plain [.val (pv (x) (y)), .val (.bool false), .imm (.bool true)] (by kernel_rfl) (fun β => ?_) (fun β w2 hD => ?_)
  · refine Obs.cons (Ob.load (b0) 0 (pcs (x) (y)) rfl rfl (by kernel_rfl) hr_b0 Tryd.underlying39 rfl (by rw [pcs_length]; exact infoQ)) ?_
    refine Obs.cons (Ob.call 38 #[pv (x) (y)] rfl (fun w => by kernel_rfl) (fun w hg => OnR_is (x) (y) hx hy false (decide_eq_false ho) w (hGl.grown hg))) ?_
    refine Obs.cons (Ob.imm rfl (fun w => by kernel_rfl)) ?_
    exact Obs.nil
  replace hr_b0 := rangeAt_grown hr_b0 hD.gr
  replace hr_b0x := rangeAt_grown hr_b0x hD.gr
  replace hr_b0y := rangeAt_grown hr_b0y hD.gr
  replace ht_b1 := there_grown ht_b1 hD.gr
  replace hW := grown_trans hW hD.gr
  clear hD
  simp only [finAct, putAll, valsFrom, Plan.value, Act.put, List.setIfInBounds_toArray, List.set_cons_zero, List.set_cons_succ]
  replace hGl := hGl0.grown hW
  repeat ((fail_if_success (with_reducible show Code.wp _ (Code.region _ _ _) _ _ _)); go_step)
  refine wp_plain_fin [.imm (bv (0)), .fin, .imm (.int .i64 (43))] (b1) 0 (fun _ => bl (0)) (by kernel_rfl) (fun β => ?_) (fun β w3 hD => ?_)
  · refine Obs.cons (Ob.imm rfl (fun w => exec_build rfl (by kernel_rfl) (build_b0 w))) ?_
    refine Obs.cons (Ob.fin rfl (by rw [bl_length]; exact ht_b1) rfl (by kernel_rfl) (by kernel_rfl) (by rw [bl_length]; exact info32) (bl_one _)) ?_
    refine Obs.cons (Ob.imm rfl (fun w => by kernel_rfl)) ?_
    exact Obs.nil
  replace hr_b0 := rangeAt_grown hr_b0 hD.gr
  replace hr_b0x := rangeAt_grown hr_b0x hD.gr
  replace hr_b0y := rangeAt_grown hr_b0y hD.gr
  replace ht_b1 := there_grown ht_b1 hD.gr
  replace hW := grown_trans hW hD.gr
  clear hD
  simp only [finAct, putAll, valsFrom, Plan.value, Act.put, List.setIfInBounds_toArray, List.set_cons_zero, List.set_cons_succ]
  replace hGl := hGl0.grown hW
  have hs3 := World.rangeAt_setCells_same w3 (b1) 0 (bl (0)) (by rw [bl_length]; exact ht_b1)
  replace hW := grown_setCells hf_b1 (bl (0)) 0 hW
  generalize w3.setCells (b1) 0 (bl (0)) = w3s at *
  repeat go_step
  refine bodyPost_ret (v := .tuple #[bv (0), .int .i64 (43)]) (result_cell_tmp Tryd.results39 _ _ (b1) _ (.int .i64 (43)) ?hp ?hv hs3 Tryd.underlying23 rfl (by rw [bl_length]; exact info32)) ?hd ?_
  case hp => rfl
  case hv => rfl
  case hd => rfl
  exact ⟨rfl, hW⟩

set_option maxRecDepth 100000 in
set_option maxHeartbeats 2000000 in
theorem ER_even (x y : Nat) (hx : x < M) (hy : y < M) (ho : isP x y) (hb : x % 2 = 0) (w : World) (hGl0 : GR w) :
    Calls Tryd.prog 39 #[pv x y] w fun e w' => e = .returned (.tuple #[bv y, .int .i64 0]) ∧ Grown w w' := by
  have hW := Grown.refl w
  have hGl := hGl0
  go_enter Tryd.func39, Tryd.ntmps39
  repeat ((fail_if_success (with_reducible show Code.wp _ (Code.region _ _ _) _ _ _)); go_step)
  refine wp_plain [.box 39 (pcs (x) (y)), .new 23 32, .imm (.int .i64 (0))] (by kernel_rfl) (fun β => ?_) (fun β w1 hD => ?_)
  · refine Obs.cons (Ob.box rfl rfl (by kernel_rfl)) ?_
    refine Obs.cons (Ob.new _ rfl rfl zero32.1 (by simp [bl_length])) ?_
    refine Obs.cons (Ob.imm rfl (fun w => by kernel_rfl)) ?_
    exact Obs.nil
  obtain ⟨hf_b0, hr_b0⟩ := hD.bx 0 _ _ rfl
  replace hf_b0 := Nat.le_trans hW.2.2 hf_b0
  obtain ⟨hf_b1, ht_b1⟩ := hD.nw 1 _ _ rfl
  replace hf_b1 := Nat.le_trans hW.2.2 hf_b1
  replace hW := grown_trans hW hD.gr
  clear hD
  simp only [finAct, putAll, valsFrom, Plan.value, Act.put, List.setIfInBounds_toArray, List.set_cons_zero, List.set_cons_succ]
  replace hGl := hGl0.grown hW
  generalize β 0 = b0 at *
  generalize β (0 + 1) = b1 at *
  have hr_b0x : w1.rangeAt b0 0 (bl (x)) := rangeAt_left hr_b0
  have hr_b0y : w1.rangeAt b0 32 (bl (y)) := rangeAt_right 32 (bl_length _) hr_b0
  repeat ((fail_if_success (with_reducible show Code.wp _ (Code.region _ _ _) _ _ _)); go_step)
  refine wp_plain [.val (pv (x) (y)), .val (.bool true), .imm (.bool false)] (by kernel_rfl) (fun β => ?_) (fun β w2 hD => ?_)
  · refine Obs.cons (Ob.load (b0) 0 (pcs (x) (y)) rfl rfl (by kernel_rfl) hr_b0 Tryd.underlying39 rfl (by rw [pcs_length]; exact infoQ)) ?_
    refine Obs.cons (Ob.call 38 #[pv (x) (y)] rfl (fun w => by kernel_rfl) (fun w hg => OnR_is (x) (y) hx hy true (decide_eq_true ho) w (hGl.grown hg))) ?_
    refine Obs.cons (Ob.imm rfl (fun w => by kernel_rfl)) ?_
    exact Obs.nil
  replace hr_b0 := rangeAt_grown hr_b0 hD.gr
  replace hr_b0x := rangeAt_grown hr_b0x hD.gr
  replace hr_b0y := rangeAt_grown hr_b0y hD.gr
  replace ht_b1 := there_grown ht_b1 hD.gr
  replace hW := grown_trans hW hD.gr
  clear hD
  simp only [finAct, putAll, valsFrom, Plan.value, Act.put, List.setIfInBounds_toArray, List.set_cons_zero, List.set_cons_succ]
  replace hGl := hGl0.grown hW
  repeat ((fail_if_success (with_reducible show Code.wp _ (Code.region _ _ _) _ _ _)); go_step)
  refine wp_plain [.imm (.pointer (some ⟨b0, 32, none⟩)), .val (bv (y)), .new 23 32, .put 2 2 (fun _ => bl (y))] (by kernel_rfl) (fun β => ?_) (fun β w3 hD => ?_)
  · refine Obs.cons (Ob.imm rfl (fun w => by kernel_rfl)) ?_
    refine Obs.cons (Ob.load (b0) 32 (bl (y)) rfl rfl (by kernel_rfl) hr_b0y Tryd.underlying23 rfl (by rw [bl_length]; exact info32)) ?_
    refine Obs.cons (Ob.new _ rfl rfl zero32.1 (by simp [bl_length])) ?_
    refine Obs.cons (Ob.put 23 rfl rfl rfl (by kernel_rfl) (by kernel_rfl) (by rw [bl_length]; exact info32) (bl_one _)) ?_
    exact Obs.nil
  replace hr_b0 := rangeAt_grown hr_b0 hD.gr
  replace hr_b0x := rangeAt_grown hr_b0x hD.gr
  replace hr_b0y := rangeAt_grown hr_b0y hD.gr
  replace ht_b1 := there_grown ht_b1 hD.gr
  obtain ⟨hf_b2, ht_b2⟩ := hD.nw 2 _ _ rfl
  have hr_b2 : w3.rangeAt (β 2) 0 (bl (y)) := hD.rg 3 2 2 (fun _ => bl (y)) rfl
  replace hf_b2 := Nat.le_trans hW.2.2 hf_b2
  replace hW := grown_trans hW hD.gr
  clear hD
  simp only [finAct, putAll, valsFrom, Plan.value, Act.put, List.setIfInBounds_toArray, List.set_cons_zero, List.set_cons_succ]
  replace hGl := hGl0.grown hW
  generalize β (0 + 1 + 1) = b2 at *
  repeat ((fail_if_success (with_reducible show Code.wp _ (Code.region _ _ _) _ _ _)); go_step)
  replace hr_b0 := rangeAt_grown hr_b0 (gdrew w3)
  replace hr_b0x := rangeAt_grown hr_b0x (gdrew w3)
  replace hr_b0y := rangeAt_grown hr_b0y (gdrew w3)
  replace hr_b2 := rangeAt_grown hr_b2 (gdrew w3)
  replace ht_b1 := there_grown ht_b1 (gdrew w3)
  replace ht_b2 := there_grown ht_b2 (gdrew w3)
  replace hW := grown_trans hW (gdrew w3)
  replace hGl := hGl0.grown hW
  refine wp_loose_fin [.imm (.pointer (some ⟨b2, 31, none⟩)), .val (.int .u8 (top (y) : Nat)), .imm (.pointer (some ⟨b0, 0, none⟩)), .val (bv (x)), .val (.int .i64 (0)), .imm (.int .u8 (0 : Nat)), .imm (.int .u8 (0 : Nat)), .imm (.int .u8 (top (y) : Nat)), .imm (.pointer (some ⟨b2, 31, none⟩)), .fin] (b2) 31 (fun _ => [.int .u8 (top (y) : Nat)]) (by kernel_rfl) (by kernel_rfl) (fun β => ?_) (fun β w4 hD => ?_)
  · refine Obs.cons (Ob.imm rfl (fun w => exec_idx 31 (by decide) rfl (by kernel_rfl) (by kernel_rfl))) ?_
    refine Obs.cons (Ob.load1 (b2) 31 rfl rfl (by kernel_rfl) (block_lt_of_cell (cell_top hr_b2)) (cell_top hr_b2) (fun w h => run_load8 w h)) ?_
    refine Obs.cons (Ob.imm rfl (fun w => by kernel_rfl)) ?_
    refine Obs.cons (Ob.load (b0) 0 (bl (x)) rfl rfl (by kernel_rfl) hr_b0x Tryd.underlying23 rfl (by rw [bl_length]; exact info32)) ?_
    refine Obs.cons (Ob.call 66 #[bv (x), .int .i64 (0)] rfl (fun w => by kernel_rfl) (fun w hg => Bit_p x 0 hb w)) ?_
    refine Obs.cons (Ob.imm rfl (fun w => by kernel_rfl)) ?_
    refine Obs.cons (Ob.imm rfl (fun w => by kernel_rfl)) ?_
    refine Obs.cons (Ob.imm rfl (fun w => exec_add8w (top (y)) (0) (top (y)) rfl (by kernel_rfl) (by kernel_rfl) (top_add0 y))) ?_
    refine Obs.cons (Ob.imm rfl (fun w => exec_idx 31 (by decide) rfl (by kernel_rfl) (by kernel_rfl))) ?_
    refine Obs.cons (Ob.fin1 (.int .u8 (top (y) : Nat)) rfl rfl (there_31 ht_b2) rfl (by kernel_rfl) (by kernel_rfl) (fun w v0 h hf => run_store8 w v0 h hf)) ?_
    exact Obs.nil
  replace hr_b0 := rangeAt_grown hr_b0 hD.gr
  replace hr_b0x := rangeAt_grown hr_b0x hD.gr
  replace hr_b0y := rangeAt_grown hr_b0y hD.gr
  replace hr_b2 := rangeAt_grown hr_b2 hD.gr
  replace ht_b1 := there_grown ht_b1 hD.gr
  replace ht_b2 := there_grown ht_b2 hD.gr
  replace hW := grown_trans hW hD.gr
  clear hD
  simp only [finAct, putAll, valsFrom, Plan.value, Act.put, List.setIfInBounds_toArray, List.set_cons_zero, List.set_cons_succ]
  replace hGl := hGl0.grown hW
  have hs4 : (w4.setCells (b2) 31 [.int .u8 (top (y) : Nat)]).rangeAt (b2) 0 (bl (y)) := rangeAt_top hr_b2 (fun _ _ => rfl)
  replace hW := grown_setCells hf_b2 [.int .u8 (top (y) : Nat)] 31 hW
  replace ht_b1 := World.there_setCells ht_b1 (b2) 31 [.int .u8 (top (y) : Nat)]
  replace ht_b2 := World.there_setCells ht_b2 (b2) 31 [.int .u8 (top (y) : Nat)]
  replace hGl := hGl0.grown hW
  generalize w4.setCells (b2) 31 [.int .u8 (top (y) : Nat)] = w4s at *
  repeat ((fail_if_success (with_reducible show Code.wp _ (Code.region _ _ _) _ _ _)); go_step)
  refine wp_plain_fin [.val (bv (y)), .fin, .imm (.int .i64 (0))] (b1) 0 (fun _ => bl (y)) (by kernel_rfl) (fun β => ?_) (fun β w5 hD => ?_)
  · refine Obs.cons (Ob.load (b2) 0 (bl (y)) rfl rfl (by kernel_rfl) hs4 Tryd.underlying23 rfl (by rw [bl_length]; exact info32)) ?_
    refine Obs.cons (Ob.fin rfl (by rw [bl_length]; exact ht_b1) rfl (by kernel_rfl) (by kernel_rfl) (by rw [bl_length]; exact info32) (bl_one _)) ?_
    refine Obs.cons (Ob.imm rfl (fun w => by kernel_rfl)) ?_
    exact Obs.nil
  replace hs4 := rangeAt_grown hs4 hD.gr
  replace ht_b1 := there_grown ht_b1 hD.gr
  replace ht_b2 := there_grown ht_b2 hD.gr
  replace hW := grown_trans hW hD.gr
  clear hD
  simp only [finAct, putAll, valsFrom, Plan.value, Act.put, List.setIfInBounds_toArray, List.set_cons_zero, List.set_cons_succ]
  replace hGl := hGl0.grown hW
  have hs5 := World.rangeAt_setCells_same w5 (b1) 0 (bl (y)) (by rw [bl_length]; exact ht_b1)
  replace hW := grown_setCells hf_b1 (bl (y)) 0 hW
  generalize w5.setCells (b1) 0 (bl (y)) = w5s at *
  repeat go_step
  refine bodyPost_ret (v := .tuple #[bv (y), .int .i64 (0)]) (result_cell_tmp Tryd.results39 _ _ (b1) _ (.int .i64 (0)) ?hp ?hv hs5 Tryd.underlying23 rfl (by rw [bl_length]; exact info32)) ?hd ?_
  case hp => rfl
  case hv => rfl
  case hd => rfl
  exact ⟨rfl, hW⟩

set_option maxRecDepth 100000 in
set_option maxHeartbeats 2000000 in
theorem ER_odd (x y : Nat) (hx : x < M) (hy : y < M) (ho : isP x y) (hb : x % 2 = 1) (w : World) (hGl0 : GR w) :
    Calls Tryd.prog 39 #[pv x y] w fun e w' => e = .returned (.tuple #[bv (y + H), .int .i64 0]) ∧ Grown w w' := by
  have hW := Grown.refl w
  have hGl := hGl0
  go_enter Tryd.func39, Tryd.ntmps39
  repeat ((fail_if_success (with_reducible show Code.wp _ (Code.region _ _ _) _ _ _)); go_step)
  refine wp_plain [.box 39 (pcs (x) (y)), .new 23 32, .imm (.int .i64 (0))] (by kernel_rfl) (fun β => ?_) (fun β w1 hD => ?_)
  · refine Obs.cons (Ob.box rfl rfl (by kernel_rfl)) ?_
    refine Obs.cons (Ob.new _ rfl rfl zero32.1 (by simp [bl_length])) ?_
    refine Obs.cons (Ob.imm rfl (fun w => by kernel_rfl)) ?_
    exact Obs.nil
  obtain ⟨hf_b0, hr_b0⟩ := hD.bx 0 _ _ rfl
  replace hf_b0 := Nat.le_trans hW.2.2 hf_b0
  obtain ⟨hf_b1, ht_b1⟩ := hD.nw 1 _ _ rfl
  replace hf_b1 := Nat.le_trans hW.2.2 hf_b1
  replace hW := grown_trans hW hD.gr
  clear hD
  simp only [finAct, putAll, valsFrom, Plan.value, Act.put, List.setIfInBounds_toArray, List.set_cons_zero, List.set_cons_succ]
  replace hGl := hGl0.grown hW
  generalize β 0 = b0 at *
  generalize β (0 + 1) = b1 at *
  have hr_b0x : w1.rangeAt b0 0 (bl (x)) := rangeAt_left hr_b0
  have hr_b0y : w1.rangeAt b0 32 (bl (y)) := rangeAt_right 32 (bl_length _) hr_b0
  repeat ((fail_if_success (with_reducible show Code.wp _ (Code.region _ _ _) _ _ _)); go_step)
  refine wp_plain [.val (pv (x) (y)), .val (.bool true), .imm (.bool false)] (by kernel_rfl) (fun β => ?_) (fun β w2 hD => ?_)
  · refine Obs.cons (Ob.load (b0) 0 (pcs (x) (y)) rfl rfl (by kernel_rfl) hr_b0 Tryd.underlying39 rfl (by rw [pcs_length]; exact infoQ)) ?_
    refine Obs.cons (Ob.call 38 #[pv (x) (y)] rfl (fun w => by kernel_rfl) (fun w hg => OnR_is (x) (y) hx hy true (decide_eq_true ho) w (hGl.grown hg))) ?_
    refine Obs.cons (Ob.imm rfl (fun w => by kernel_rfl)) ?_
    exact Obs.nil
  replace hr_b0 := rangeAt_grown hr_b0 hD.gr
  replace hr_b0x := rangeAt_grown hr_b0x hD.gr
  replace hr_b0y := rangeAt_grown hr_b0y hD.gr
  replace ht_b1 := there_grown ht_b1 hD.gr
  replace hW := grown_trans hW hD.gr
  clear hD
  simp only [finAct, putAll, valsFrom, Plan.value, Act.put, List.setIfInBounds_toArray, List.set_cons_zero, List.set_cons_succ]
  replace hGl := hGl0.grown hW
  repeat ((fail_if_success (with_reducible show Code.wp _ (Code.region _ _ _) _ _ _)); go_step)
  refine wp_plain [.imm (.pointer (some ⟨b0, 32, none⟩)), .val (bv (y)), .new 23 32, .put 2 2 (fun _ => bl (y))] (by kernel_rfl) (fun β => ?_) (fun β w3 hD => ?_)
  · refine Obs.cons (Ob.imm rfl (fun w => by kernel_rfl)) ?_
    refine Obs.cons (Ob.load (b0) 32 (bl (y)) rfl rfl (by kernel_rfl) hr_b0y Tryd.underlying23 rfl (by rw [bl_length]; exact info32)) ?_
    refine Obs.cons (Ob.new _ rfl rfl zero32.1 (by simp [bl_length])) ?_
    refine Obs.cons (Ob.put 23 rfl rfl rfl (by kernel_rfl) (by kernel_rfl) (by rw [bl_length]; exact info32) (bl_one _)) ?_
    exact Obs.nil
  replace hr_b0 := rangeAt_grown hr_b0 hD.gr
  replace hr_b0x := rangeAt_grown hr_b0x hD.gr
  replace hr_b0y := rangeAt_grown hr_b0y hD.gr
  replace ht_b1 := there_grown ht_b1 hD.gr
  obtain ⟨hf_b2, ht_b2⟩ := hD.nw 2 _ _ rfl
  have hr_b2 : w3.rangeAt (β 2) 0 (bl (y)) := hD.rg 3 2 2 (fun _ => bl (y)) rfl
  replace hf_b2 := Nat.le_trans hW.2.2 hf_b2
  replace hW := grown_trans hW hD.gr
  clear hD
  simp only [finAct, putAll, valsFrom, Plan.value, Act.put, List.setIfInBounds_toArray, List.set_cons_zero, List.set_cons_succ]
  replace hGl := hGl0.grown hW
  generalize β (0 + 1 + 1) = b2 at *
  repeat ((fail_if_success (with_reducible show Code.wp _ (Code.region _ _ _) _ _ _)); go_step)
  replace hr_b0 := rangeAt_grown hr_b0 (gdrew w3)
  replace hr_b0x := rangeAt_grown hr_b0x (gdrew w3)
  replace hr_b0y := rangeAt_grown hr_b0y (gdrew w3)
  replace hr_b2 := rangeAt_grown hr_b2 (gdrew w3)
  replace ht_b1 := there_grown ht_b1 (gdrew w3)
  replace ht_b2 := there_grown ht_b2 (gdrew w3)
  replace hW := grown_trans hW (gdrew w3)
  replace hGl := hGl0.grown hW
  refine wp_loose_fin [.imm (.pointer (some ⟨b2, 31, none⟩)), .val (.int .u8 (top (y) : Nat)), .imm (.pointer (some ⟨b0, 0, none⟩)), .val (bv (x)), .val (.int .i64 (1)), .imm (.int .u8 (1 : Nat)), .imm (.int .u8 (128 : Nat)), .imm (.int .u8 (top (y + H) : Nat)), .imm (.pointer (some ⟨b2, 31, none⟩)), .fin] (b2) 31 (fun _ => [.int .u8 (top (y + H) : Nat)]) (by kernel_rfl) (by kernel_rfl) (fun β => ?_) (fun β w4 hD => ?_)
  · refine Obs.cons (Ob.imm rfl (fun w => exec_idx 31 (by decide) rfl (by kernel_rfl) (by kernel_rfl))) ?_
    refine Obs.cons (Ob.load1 (b2) 31 rfl rfl (by kernel_rfl) (block_lt_of_cell (cell_top hr_b2)) (cell_top hr_b2) (fun w h => run_load8 w h)) ?_
    refine Obs.cons (Ob.imm rfl (fun w => by kernel_rfl)) ?_
    refine Obs.cons (Ob.load (b0) 0 (bl (x)) rfl rfl (by kernel_rfl) hr_b0x Tryd.underlying23 rfl (by rw [bl_length]; exact info32)) ?_
    refine Obs.cons (Ob.call 66 #[bv (x), .int .i64 (0)] rfl (fun w => by kernel_rfl) (fun w hg => Bit_p x 1 hb w)) ?_
    refine Obs.cons (Ob.imm rfl (fun w => by kernel_rfl)) ?_
    refine Obs.cons (Ob.imm rfl (fun w => by kernel_rfl)) ?_
    refine Obs.cons (Ob.imm rfl (fun w => exec_add8w (top (y)) (128) (top (y + H)) rfl (by kernel_rfl) (by kernel_rfl) (top_add ho.2.1))) ?_
    refine Obs.cons (Ob.imm rfl (fun w => exec_idx 31 (by decide) rfl (by kernel_rfl) (by kernel_rfl))) ?_
    refine Obs.cons (Ob.fin1 (.int .u8 (top (y + H) : Nat)) rfl rfl (there_31 ht_b2) rfl (by kernel_rfl) (by kernel_rfl) (fun w v0 h hf => run_store8 w v0 h hf)) ?_
    exact Obs.nil
  replace hr_b0 := rangeAt_grown hr_b0 hD.gr
  replace hr_b0x := rangeAt_grown hr_b0x hD.gr
  replace hr_b0y := rangeAt_grown hr_b0y hD.gr
  replace hr_b2 := rangeAt_grown hr_b2 hD.gr
  replace ht_b1 := there_grown ht_b1 hD.gr
  replace ht_b2 := there_grown ht_b2 hD.gr
  replace hW := grown_trans hW hD.gr
  clear hD
  simp only [finAct, putAll, valsFrom, Plan.value, Act.put, List.setIfInBounds_toArray, List.set_cons_zero, List.set_cons_succ]
  replace hGl := hGl0.grown hW
  have hs4 : (w4.setCells (b2) 31 [.int .u8 (top (y + H) : Nat)]).rangeAt (b2) 0 (bl (y + H)) := rangeAt_top hr_b2 (low_yH ho.2.1)
  replace hW := grown_setCells hf_b2 [.int .u8 (top (y + H) : Nat)] 31 hW
  replace ht_b1 := World.there_setCells ht_b1 (b2) 31 [.int .u8 (top (y + H) : Nat)]
  replace ht_b2 := World.there_setCells ht_b2 (b2) 31 [.int .u8 (top (y + H) : Nat)]
  replace hGl := hGl0.grown hW
  generalize w4.setCells (b2) 31 [.int .u8 (top (y + H) : Nat)] = w4s at *
  repeat ((fail_if_success (with_reducible show Code.wp _ (Code.region _ _ _) _ _ _)); go_step)
  refine wp_plain_fin [.val (bv (y + H)), .fin, .imm (.int .i64 (0))] (b1) 0 (fun _ => bl (y + H)) (by kernel_rfl) (fun β => ?_) (fun β w5 hD => ?_)
  · refine Obs.cons (Ob.load (b2) 0 (bl (y + H)) rfl rfl (by kernel_rfl) hs4 Tryd.underlying23 rfl (by rw [bl_length]; exact info32)) ?_
    refine Obs.cons (Ob.fin rfl (by rw [bl_length]; exact ht_b1) rfl (by kernel_rfl) (by kernel_rfl) (by rw [bl_length]; exact info32) (bl_one _)) ?_
    refine Obs.cons (Ob.imm rfl (fun w => by kernel_rfl)) ?_
    exact Obs.nil
  replace hs4 := rangeAt_grown hs4 hD.gr
  replace ht_b1 := there_grown ht_b1 hD.gr
  replace ht_b2 := there_grown ht_b2 hD.gr
  replace hW := grown_trans hW hD.gr
  clear hD
  simp only [finAct, putAll, valsFrom, Plan.value, Act.put, List.setIfInBounds_toArray, List.set_cons_zero, List.set_cons_succ]
  replace hGl := hGl0.grown hW
  have hs5 := World.rangeAt_setCells_same w5 (b1) 0 (bl (y + H)) (by rw [bl_length]; exact ht_b1)
  replace hW := grown_setCells hf_b1 (bl (y + H)) 0 hW
  generalize w5.setCells (b1) 0 (bl (y + H)) = w5s at *
  repeat go_step
  refine bodyPost_ret (v := .tuple #[bv (y + H), .int .i64 (0)]) (result_cell_tmp Tryd.results39 _ _ (b1) _ (.int .i64 (0)) ?hp ?hv hs5 Tryd.underlying23 rfl (by rw [bl_length]; exact info32)) ?hd ?_
  case hp => rfl
  case hv => rfl
  case hd => rfl
  exact ⟨rfl, hW⟩

set_option maxRecDepth 100000 in
set_option maxHeartbeats 2000000 in
theorem NegR_1 (x y : Nat) (hx : x < M) (hy : y < M) (ho : isP x y) (w : World) (hGl0 : GR w) :
    Calls Tryd.prog 41 #[pv x y] w fun ex w' => ex = .returned (.tuple #[pv (ng x) y, .int .i64 0]) ∧ Grown w w' := by
  have hW := Grown.refl w
  have hGl := hGl0
  go_enter Tryd.func41, Tryd.ntmps41
  repeat ((fail_if_success (with_reducible show Code.wp _ (Code.region _ _ _) _ _ _)); go_step)
  refine wp_plain [.box 39 (pcs (x) (y)), .new 39 64, .imm (.int .i64 (0))] (by kernel_rfl) (fun β => ?_) (fun β w1 hD => ?_)
  · refine Obs.cons (Ob.box rfl rfl (by kernel_rfl)) ?_
    refine Obs.cons (Ob.new _ rfl rfl zeroQ (by simp [pcs_length])) ?_
    refine Obs.cons (Ob.imm rfl (fun w => by kernel_rfl)) ?_
    exact Obs.nil
  obtain ⟨hf_b0, hr_b0⟩ := hD.bx 0 _ _ rfl
  replace hf_b0 := Nat.le_trans hW.2.2 hf_b0
  obtain ⟨hf_b1, ht_b1⟩ := hD.nw 1 _ _ rfl
  replace hf_b1 := Nat.le_trans hW.2.2 hf_b1
  replace hW := grown_trans hW hD.gr
  clear hD
  simp only [finAct, putAll, valsFrom, Plan.value, Act.put, List.setIfInBounds_toArray, List.set_cons_zero, List.set_cons_succ]
  replace hGl := hGl0.grown hW
  generalize β 0 = b0 at *
  generalize β (0 + 1) = b1 at *
  have hr_b0x : w1.rangeAt b0 0 (bl (x)) := rangeAt_left hr_b0
  have hr_b0y : w1.rangeAt b0 32 (bl (y)) := rangeAt_right 32 (bl_length _) hr_b0
  repeat ((fail_if_success (with_reducible show Code.wp _ (Code.region _ _ _) _ _ _)); go_step)
  refine wp_plain [.val (pv (x) (y)), .val (.bool true), .imm (.bool false)] (by kernel_rfl) (fun β => ?_) (fun β w2 hD => ?_)
  · refine Obs.cons (Ob.load (b0) 0 (pcs (x) (y)) rfl rfl (by kernel_rfl) hr_b0 Tryd.underlying39 rfl (by rw [pcs_length]; exact infoQ)) ?_
    refine Obs.cons (Ob.call 38 #[pv (x) (y)] rfl (fun w => by kernel_rfl) (fun w hg => OnR_is (x) (y) hx hy true (decide_eq_true ho) w (hGl.grown hg))) ?_
    refine Obs.cons (Ob.imm rfl (fun w => by kernel_rfl)) ?_
    exact Obs.nil
  replace hr_b0 := rangeAt_grown hr_b0 hD.gr
  replace hr_b0x := rangeAt_grown hr_b0x hD.gr
  replace hr_b0y := rangeAt_grown hr_b0y hD.gr
  replace ht_b1 := there_grown ht_b1 hD.gr
  replace hW := grown_trans hW hD.gr
  clear hD
  simp only [finAct, putAll, valsFrom, Plan.value, Act.put, List.setIfInBounds_toArray, List.set_cons_zero, List.set_cons_succ]
  replace hGl := hGl0.grown hW
  repeat ((fail_if_success (with_reducible show Code.wp _ (Code.region _ _ _) _ _ _)); go_step)
  replace hr_b0 := rangeAt_grown hr_b0 (gdrew w2)
  replace hr_b0x := rangeAt_grown hr_b0x (gdrew w2)
  replace hr_b0y := rangeAt_grown hr_b0y (gdrew w2)
  replace ht_b1 := there_grown ht_b1 (gdrew w2)
  replace hW := grown_trans hW (gdrew w2)
  replace hGl := hGl0.grown hW
  refine wp_loose_fin [.val (rn (0)), .imm (.pointer (some ⟨b0, 0, none⟩)), .val (bv (x)), .val (rn (x)), .any (fun z => rn (z)) [] (fun l z => z < H ∧ z % p = sb (0) (x)), .val (bv (sb (0) (x))), .imm (.pointer (some ⟨b0, 32, none⟩)), .val (bv (y)), .imm (pv (sb (0) (x)) (y)), .fin, .imm (.int .i64 (0))] (b1) 0 (fun _ => pcs (sb (0) (x)) (y)) (by kernel_rfl) (by kernel_rfl) (fun β => ?_) (fun β w3 hD => ?_)
  · refine Obs.cons (Ob.call 60 #[.int .i64 (0)] rfl (fun w => by kernel_rfl) (fun w hg => small_v 0 (by decide) 0 rfl w)) ?_
    refine Obs.cons (Ob.imm rfl (fun w => by kernel_rfl)) ?_
    refine Obs.cons (Ob.load (b0) 0 (bl (x)) rfl rfl (by kernel_rfl) hr_b0x Tryd.underlying23 rfl (by rw [bl_length]; exact info32)) ?_
    refine Obs.cons (Ob.call 63 #[bv (x)] rfl (fun w => by kernel_rfl) (fun w hg => read_c (x) ho.1 w)) ?_
    refine Obs.cons (Ob.any 71 #[rn (0), rn (x)] rfl (fun w => by kernel_rfl) (fun hk w hg => minus_r (0) (x) (by decide) (lt_H ho.1) w)) ?_
    refine Obs.cons (Ob.call' 74 #[rn (β 4)] rfl (fun w => by kernel_rfl) (fun hk w hg => by have h := written_r (β 4) (hk 4 _ _ _ rfl (bindsTo_spec (by kernel_rfl))).1 w; rw [(hk 4 _ _ _ rfl (bindsTo_spec (by kernel_rfl))).2] at h; exact h)) ?_
    refine Obs.cons (Ob.imm rfl (fun w => by kernel_rfl)) ?_
    refine Obs.cons (Ob.load (b0) 32 (bl (y)) rfl rfl (by kernel_rfl) hr_b0y Tryd.underlying23 rfl (by rw [bl_length]; exact info32)) ?_
    refine Obs.cons (Ob.imm rfl (fun w => exec_build rfl (by kernel_rfl) (build_q _ _ w))) ?_
    refine Obs.cons (Ob.fin rfl (by rw [pcs_length]; exact ht_b1) rfl (by kernel_rfl) (by kernel_rfl) (by rw [pcs_length]; exact infoQ) (pcs_one _ _)) ?_
    refine Obs.cons (Ob.imm rfl (fun w => by kernel_rfl)) ?_
    exact Obs.nil
  replace hr_b0 := rangeAt_grown hr_b0 hD.gr
  replace hr_b0x := rangeAt_grown hr_b0x hD.gr
  replace hr_b0y := rangeAt_grown hr_b0y hD.gr
  replace ht_b1 := there_grown ht_b1 hD.gr
  have hz3_4 : (β 4) < H ∧ (β 4) % p = sb (0) (x) := hD.an 4 _ _ _ rfl
  replace hW := grown_trans hW hD.gr
  clear hD
  simp only [finAct, putAll, valsFrom, Plan.value, Act.put, List.setIfInBounds_toArray, List.set_cons_zero, List.set_cons_succ]
  replace hGl := hGl0.grown hW
  generalize β (0 + 1 + 1 + 1 + 1) = z3_4 at *
  have hq3_4 := Hid.of hz3_4.2
  replace hz3_4 := hz3_4.1
  have hs3 := World.rangeAt_setCells_same w3 (b1) 0 (pcs (sb (0) (x)) (y)) (by rw [pcs_length]; exact ht_b1)
  replace hW := grown_setCells hf_b1 (pcs (sb (0) (x)) (y)) 0 hW
  generalize w3.setCells (b1) 0 (pcs (sb (0) (x)) (y)) = w3s at *
  repeat go_step
  refine bodyPost_ret (v := .tuple #[pv (sb (0) (x)) (y), .int .i64 (0)]) (result_cell_tmp Tryd.results41 _ _ (b1) _ (.int .i64 (0)) ?hp ?hv hs3 Tryd.underlying39 rfl (by rw [pcs_length]; exact infoQ)) ?hd ?_
  case hp => rfl
  case hv => rfl
  case hd => rfl
  exact ⟨rfl, hW⟩

set_option maxRecDepth 100000 in
set_option maxHeartbeats 2000000 in
theorem NegR_0 (x y : Nat) (hx : x < M) (hy : y < M) (ho : ¬ isP x y) (w : World) (hGl0 : GR w) :
    Calls Tryd.prog 41 #[pv x y] w fun ex w' => ex = .returned (.tuple #[pv 0 0, .int .i64 43]) ∧ Grown w w' := by
  have hW := Grown.refl w
  have hGl := hGl0
  go_enter Tryd.func41, Tryd.ntmps41
  repeat ((fail_if_success (with_reducible show Code.wp _ (Code.region _ _ _) _ _ _)); go_step)
  refine wp_plain [.box 39 (pcs (x) (y)), .new 39 64, .imm (.int .i64 (0))] (by kernel_rfl) (fun β => ?_) (fun β w1 hD => ?_)
  · refine Obs.cons (Ob.box rfl rfl (by kernel_rfl)) ?_
    refine Obs.cons (Ob.new _ rfl rfl zeroQ (by simp [pcs_length])) ?_
    refine Obs.cons (Ob.imm rfl (fun w => by kernel_rfl)) ?_
    exact Obs.nil
  obtain ⟨hf_b0, hr_b0⟩ := hD.bx 0 _ _ rfl
  replace hf_b0 := Nat.le_trans hW.2.2 hf_b0
  obtain ⟨hf_b1, ht_b1⟩ := hD.nw 1 _ _ rfl
  replace hf_b1 := Nat.le_trans hW.2.2 hf_b1
  replace hW := grown_trans hW hD.gr
  clear hD
  simp only [finAct, putAll, valsFrom, Plan.value, Act.put, List.setIfInBounds_toArray, List.set_cons_zero, List.set_cons_succ]
  replace hGl := hGl0.grown hW
  generalize β 0 = b0 at *
  generalize β (0 + 1) = b1 at *
  have hr_b0x : w1.rangeAt b0 0 (bl (x)) := rangeAt_left hr_b0
  have hr_b0y : w1.rangeAt b0 32 (bl (y)) := rangeAt_right 32 (bl_length _) hr_b0
  repeat ((fail_if_success (with_reducible show Code.wp _ (Code.region _ _ _) _ _ _)); go_step)
  refine wp_plain [.val (pv (x) (y)), .val (.bool false), .imm (.bool true)] (by kernel_rfl) (fun β => ?_) (fun β w2 hD => ?_)
  · refine Obs.cons (Ob.load (b0) 0 (pcs (x) (y)) rfl rfl (by kernel_rfl) hr_b0 Tryd.underlying39 rfl (by rw [pcs_length]; exact infoQ)) ?_
    refine Obs.cons (Ob.call 38 #[pv (x) (y)] rfl (fun w => by kernel_rfl) (fun w hg => OnR_is (x) (y) hx hy false (decide_eq_false ho) w (hGl.grown hg))) ?_
    refine Obs.cons (Ob.imm rfl (fun w => by kernel_rfl)) ?_
    exact Obs.nil
  replace hr_b0 := rangeAt_grown hr_b0 hD.gr
  replace hr_b0x := rangeAt_grown hr_b0x hD.gr
  replace hr_b0y := rangeAt_grown hr_b0y hD.gr
  replace ht_b1 := there_grown ht_b1 hD.gr
  replace hW := grown_trans hW hD.gr
  clear hD
  simp only [finAct, putAll, valsFrom, Plan.value, Act.put, List.setIfInBounds_toArray, List.set_cons_zero, List.set_cons_succ]
  replace hGl := hGl0.grown hW
  repeat ((fail_if_success (with_reducible show Code.wp _ (Code.region _ _ _) _ _ _)); go_step)
  refine wp_plain_fin [.imm (pv (0) (0)), .fin, .imm (.int .i64 (43))] (b1) 0 (fun _ => pcs (0) (0)) (by kernel_rfl) (fun β => ?_) (fun β w3 hD => ?_)
  · refine Obs.cons (Ob.imm rfl (fun w => exec_build rfl (by kernel_rfl) (build_q0 w))) ?_
    refine Obs.cons (Ob.fin rfl (by rw [pcs_length]; exact ht_b1) rfl (by kernel_rfl) (by kernel_rfl) (by rw [pcs_length]; exact infoQ) (pcs_one _ _)) ?_
    refine Obs.cons (Ob.imm rfl (fun w => by kernel_rfl)) ?_
    exact Obs.nil
  replace hr_b0 := rangeAt_grown hr_b0 hD.gr
  replace hr_b0x := rangeAt_grown hr_b0x hD.gr
  replace hr_b0y := rangeAt_grown hr_b0y hD.gr
  replace ht_b1 := there_grown ht_b1 hD.gr
  replace hW := grown_trans hW hD.gr
  clear hD
  simp only [finAct, putAll, valsFrom, Plan.value, Act.put, List.setIfInBounds_toArray, List.set_cons_zero, List.set_cons_succ]
  replace hGl := hGl0.grown hW
  have hs3 := World.rangeAt_setCells_same w3 (b1) 0 (pcs (0) (0)) (by rw [pcs_length]; exact ht_b1)
  replace hW := grown_setCells hf_b1 (pcs (0) (0)) 0 hW
  generalize w3.setCells (b1) 0 (pcs (0) (0)) = w3s at *
  repeat go_step
  refine bodyPost_ret (v := .tuple #[pv (0) (0), .int .i64 (43)]) (result_cell_tmp Tryd.results41 _ _ (b1) _ (.int .i64 (43)) ?hp ?hv hs3 Tryd.underlying39 rfl (by rw [pcs_length]; exact infoQ)) ?hd ?_
  case hp => rfl
  case hv => rfl
  case hd => rfl
  exact ⟨rfl, hW⟩

end Go.Proofs.YtoimglbjepppmaaDoor
