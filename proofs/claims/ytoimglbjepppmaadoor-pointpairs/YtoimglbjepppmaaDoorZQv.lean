import Derived.Test.YtoimglbjepppmaaDoorZQu
import Derived.Test.YtoimglbjepppmaaDoorZPk
namespace Go.Proofs.YtoimglbjepppmaaDoor
open Go.RowKit Go.Shelf FieldNum

theorem pack_0 {a b c : Nat} (ha : a < H) : (a + H * (b + H * c)) % H = a := by rw [Nat.add_mul_mod_self_left]; exact Nat.mod_eq_of_lt ha
theorem pack_1 {a b c : Nat} (ha : a < H) : (a + H * (b + H * c)) / H = b + H * c := by rw [Nat.add_mul_div_left _ _ (by decide), Nat.div_eq_of_lt ha, Nat.zero_add]
theorem pack_2 {a b c : Nat} (ha : a < H) (hb : b < H) : (a + H * (b + H * c)) / H % H = b := by rw [pack_1 ha, Nat.add_mul_mod_self_left]; exact Nat.mod_eq_of_lt hb
theorem pack_3 {a b c : Nat} (ha : a < H) (hb : b < H) : (a + H * (b + H * c)) / H / H = c := by rw [pack_1 ha, Nat.add_mul_div_left _ _ (by decide), Nat.div_eq_of_lt hb, Nat.zero_add]
theorem pack_eq {a b c : Nat} (ha : a < H) (hb : b < H) : cv a b c = cv ((a + H * (b + H * c)) % H) ((a + H * (b + H * c)) / H % H) ((a + H * (b + H * c)) / H / H) := by rw [pack_0 ha, pack_2 ha hb, pack_3 ha hb]
theorem pack_lt {a b c : Nat} (ha : a < H) (hb : b < H) (hc : c < H) : (a + H * (b + H * c)) / H / H < H := by rw [pack_3 ha hb]; exact hc
theorem exec_as {P : Program} {ρ : Operand → Value} {o : Oper} {w : World} {v v' : Value} (h : v = v') (he : (execOp ρ o).run P w = .ok (.value v) w) : (execOp ρ o).run P w = .ok (.value v') w := h ▸ he
/-- the reference's sum: three numbers in one -/
def SumR (x y z u v c d N : Nat) : Prop := φ (N % H) = rX (φ d) (φ x) (φ y) (φ z) (φ u) (φ v) (φ c) ∧ φ (N / H % H) = rY (φ d) (φ x) (φ y) (φ z) (φ u) (φ v) (φ c) ∧ φ (N / H / H) = rZ (φ d) (φ x) (φ y) (φ z) (φ u) (φ v) (φ c)

set_option maxRecDepth 100000 in
set_option maxHeartbeats 2000000 in
theorem sum_r (x y f u v c d : Nat) (hx : x < H) (hy : y < H) (hf : f < H) (hu : u < H) (hv : v < H) (hc : c < H) (hd : d < H) (w : World) : Calls Tryd.prog 79 #[cv x y f, cv u v c, rn d] w fun e w' => (∃ N, e = .returned (cv (N % H) (N / H % H) (N / H / H)) ∧ N / H / H < H ∧ SumR x y f u v c d N) ∧ Grown w w' := by
  have hW := Grown.refl w
  go_enter Tryd.func79, Tryd.ntmps79
  repeat ((fail_if_success (with_reducible show Code.wp _ (Code.region _ _ _) _ _ _)); go_step)
  refine wp_plain [.box 80 (ccs (x) (y) (f)), .box 80 (ccs (u) (v) (c)), .box 77 (rl (d15 (d))), .new 80 51] (by kernel_rfl) (fun β => ?_) (fun β w1 hD => ?_)
  · refine Obs.cons (Ob.box rfl rfl (by kernel_rfl)) ?_
    refine Obs.cons (Ob.box rfl rfl (by kernel_rfl)) ?_
    refine Obs.cons (Ob.box rfl rfl (by kernel_rfl)) ?_
    refine Obs.cons (Ob.new _ rfl rfl zeroC (by simp [ccs_length])) ?_
    exact Obs.nil
  obtain ⟨hf_b0, hr_b0⟩ := hD.bx 0 _ _ rfl
  replace hf_b0 := Nat.le_trans hW.2.2 hf_b0
  obtain ⟨hf_b1, hr_b1⟩ := hD.bx 1 _ _ rfl
  replace hf_b1 := Nat.le_trans hW.2.2 hf_b1
  obtain ⟨hf_b2, hr_b2⟩ := hD.bx 2 _ _ rfl
  replace hf_b2 := Nat.le_trans hW.2.2 hf_b2
  obtain ⟨hf_b3, ht_b3⟩ := hD.nw 3 _ _ rfl
  replace hf_b3 := Nat.le_trans hW.2.2 hf_b3
  replace hW := grown_trans hW hD.gr
  clear hD
  simp only [finAct, putAll, valsFrom, Plan.value, Act.put, List.setIfInBounds_toArray, List.set_cons_zero, List.set_cons_succ]
  generalize β 0 = b0 at *
  generalize β (0 + 1) = b1 at *
  generalize β (0 + 1 + 1) = b2 at *
  generalize β (0 + 1 + 1 + 1) = b3 at *
  have hr_b0x : w1.rangeAt b0 0 (rl (d15 (x))) := rangeAt_left hr_b0
  have hr_b0r := rangeAt_right 17 (rl_length _) hr_b0
  have hr_b0y : w1.rangeAt b0 17 (rl (d15 (y))) := rangeAt_left hr_b0r
  have hr_b0z : w1.rangeAt b0 34 (rl (d15 (f))) := rangeAt_right 17 (rl_length _) hr_b0r
  clear hr_b0r
  have hr_b1x : w1.rangeAt b1 0 (rl (d15 (u))) := rangeAt_left hr_b1
  have hr_b1r := rangeAt_right 17 (rl_length _) hr_b1
  have hr_b1y : w1.rangeAt b1 17 (rl (d15 (v))) := rangeAt_left hr_b1r
  have hr_b1z : w1.rangeAt b1 34 (rl (d15 (c))) := rangeAt_right 17 (rl_length _) hr_b1r
  clear hr_b1r
  repeat ((fail_if_success (with_reducible show Code.wp _ (Code.region _ _ _) _ _ _)); go_step)
  refine wp_plain [.imm (.pointer (some ⟨b0, 34, none⟩)), .val (rn (f)), .imm (.pointer (some ⟨b1, 34, none⟩)), .val (rn (c)), .any (fun z => rn (z)) [] (fun l z => z < H ∧ z % p = (f) * (c) % p), .new 77 17, .put 5 4 (fun z => rl (d15 (z)))] (by kernel_rfl) (fun β => ?_) (fun β w2 hD => ?_)
  · refine Obs.cons (Ob.imm rfl (fun w => by kernel_rfl)) ?_
    refine Obs.cons (Ob.load (b0) 34 (rl (d15 (f))) rfl rfl (by kernel_rfl) hr_b0z Tryd.underlying77 rfl (by rw [rl_length]; exact infoR)) ?_
    refine Obs.cons (Ob.imm rfl (fun w => by kernel_rfl)) ?_
    refine Obs.cons (Ob.load (b1) 34 (rl (d15 (c))) rfl rfl (by kernel_rfl) hr_b1z Tryd.underlying77 rfl (by rw [rl_length]; exact infoR)) ?_
    refine Obs.cons (Ob.any 68 #[rn (f), rn (c)] rfl (fun w => by kernel_rfl) (fun hk w hg => times_r (f) (c) hf hc w)) ?_
    refine Obs.cons (Ob.new _ rfl rfl zeroR (by simp [rl_length])) ?_
    refine Obs.cons (Ob.put 77 rfl rfl rfl (by kernel_rfl) (by kernel_rfl) (by rw [rl_length]; exact infoR) (rl_one _)) ?_
    exact Obs.nil
  replace hr_b0 := rangeAt_grown hr_b0 hD.gr
  replace hr_b0x := rangeAt_grown hr_b0x hD.gr
  replace hr_b0y := rangeAt_grown hr_b0y hD.gr
  replace hr_b0z := rangeAt_grown hr_b0z hD.gr
  replace hr_b1 := rangeAt_grown hr_b1 hD.gr
  replace hr_b1x := rangeAt_grown hr_b1x hD.gr
  replace hr_b1y := rangeAt_grown hr_b1y hD.gr
  replace hr_b1z := rangeAt_grown hr_b1z hD.gr
  replace hr_b2 := rangeAt_grown hr_b2 hD.gr
  replace ht_b3 := there_grown ht_b3 hD.gr
  obtain ⟨hf_b4, ht_b4⟩ := hD.nw 5 _ _ rfl
  have hr_b4 : w2.rangeAt (β 5) 0 (rl (d15 (β 4))) := hD.rg 6 5 4 (fun z => rl (d15 (z))) rfl
  replace hf_b4 := Nat.le_trans hW.2.2 hf_b4
  have hz2_4 : (β 4) < H ∧ (β 4) % p = (f) * (c) % p := hD.an 4 _ _ _ rfl
  replace hW := grown_trans hW hD.gr
  clear hD
  simp only [finAct, putAll, valsFrom, Plan.value, Act.put, List.setIfInBounds_toArray, List.set_cons_zero, List.set_cons_succ]
  generalize β (0 + 1 + 1 + 1 + 1 + 1) = b4 at *
  generalize β (0 + 1 + 1 + 1 + 1) = z2_4 at *
  have hq2_4 := Hid.of hz2_4.2
  replace hz2_4 := hz2_4.1
  repeat ((fail_if_success (with_reducible show Code.wp _ (Code.region _ _ _) _ _ _)); go_step)
  refine wp_plain [.val (rn (z2_4)), .val (rn (z2_4)), .any (fun z => rn (z)) [] (fun l z => z < H ∧ z % p = (z2_4) * (z2_4) % p), .new 77 17, .put 3 2 (fun z => rl (d15 (z)))] (by kernel_rfl) (fun β => ?_) (fun β w3 hD => ?_)
  · refine Obs.cons (Ob.load (b4) 0 (rl (d15 (z2_4))) rfl rfl (by kernel_rfl) hr_b4 Tryd.underlying77 rfl (by rw [rl_length]; exact infoR)) ?_
    refine Obs.cons (Ob.load (b4) 0 (rl (d15 (z2_4))) rfl rfl (by kernel_rfl) hr_b4 Tryd.underlying77 rfl (by rw [rl_length]; exact infoR)) ?_
    refine Obs.cons (Ob.any 68 #[rn (z2_4), rn (z2_4)] rfl (fun w => by kernel_rfl) (fun hk w hg => times_r (z2_4) (z2_4) hz2_4 hz2_4 w)) ?_
    refine Obs.cons (Ob.new _ rfl rfl zeroR (by simp [rl_length])) ?_
    refine Obs.cons (Ob.put 77 rfl rfl rfl (by kernel_rfl) (by kernel_rfl) (by rw [rl_length]; exact infoR) (rl_one _)) ?_
    exact Obs.nil
  replace hr_b0 := rangeAt_grown hr_b0 hD.gr
  replace hr_b0x := rangeAt_grown hr_b0x hD.gr
  replace hr_b0y := rangeAt_grown hr_b0y hD.gr
  replace hr_b0z := rangeAt_grown hr_b0z hD.gr
  replace hr_b1 := rangeAt_grown hr_b1 hD.gr
  replace hr_b1x := rangeAt_grown hr_b1x hD.gr
  replace hr_b1y := rangeAt_grown hr_b1y hD.gr
  replace hr_b1z := rangeAt_grown hr_b1z hD.gr
  replace hr_b2 := rangeAt_grown hr_b2 hD.gr
  replace hr_b4 := rangeAt_grown hr_b4 hD.gr
  replace ht_b3 := there_grown ht_b3 hD.gr
  replace ht_b4 := there_grown ht_b4 hD.gr
  obtain ⟨hf_b5, ht_b5⟩ := hD.nw 3 _ _ rfl
  have hr_b5 : w3.rangeAt (β 3) 0 (rl (d15 (β 2))) := hD.rg 4 3 2 (fun z => rl (d15 (z))) rfl
  replace hf_b5 := Nat.le_trans hW.2.2 hf_b5
  have hz3_2 : (β 2) < H ∧ (β 2) % p = (z2_4) * (z2_4) % p := hD.an 2 _ _ _ rfl
  replace hW := grown_trans hW hD.gr
  clear hD
  simp only [finAct, putAll, valsFrom, Plan.value, Act.put, List.setIfInBounds_toArray, List.set_cons_zero, List.set_cons_succ]
  generalize β (0 + 1 + 1 + 1) = b5 at *
  generalize β (0 + 1 + 1) = z3_2 at *
  have hq3_2 := Hid.of hz3_2.2
  replace hz3_2 := hz3_2.1
  repeat ((fail_if_success (with_reducible show Code.wp _ (Code.region _ _ _) _ _ _)); go_step)
  refine wp_plain [.imm (.pointer (some ⟨b0, 0, none⟩)), .val (rn (x)), .imm (.pointer (some ⟨b1, 0, none⟩)), .val (rn (u)), .any (fun z => rn (z)) [] (fun l z => z < H ∧ z % p = (x) * (u) % p), .new 77 17, .put 5 4 (fun z => rl (d15 (z)))] (by kernel_rfl) (fun β => ?_) (fun β w4 hD => ?_)
  · refine Obs.cons (Ob.imm rfl (fun w => by kernel_rfl)) ?_
    refine Obs.cons (Ob.load (b0) 0 (rl (d15 (x))) rfl rfl (by kernel_rfl) hr_b0x Tryd.underlying77 rfl (by rw [rl_length]; exact infoR)) ?_
    refine Obs.cons (Ob.imm rfl (fun w => by kernel_rfl)) ?_
    refine Obs.cons (Ob.load (b1) 0 (rl (d15 (u))) rfl rfl (by kernel_rfl) hr_b1x Tryd.underlying77 rfl (by rw [rl_length]; exact infoR)) ?_
    refine Obs.cons (Ob.any 68 #[rn (x), rn (u)] rfl (fun w => by kernel_rfl) (fun hk w hg => times_r (x) (u) hx hu w)) ?_
    refine Obs.cons (Ob.new _ rfl rfl zeroR (by simp [rl_length])) ?_
    refine Obs.cons (Ob.put 77 rfl rfl rfl (by kernel_rfl) (by kernel_rfl) (by rw [rl_length]; exact infoR) (rl_one _)) ?_
    exact Obs.nil
  replace hr_b0 := rangeAt_grown hr_b0 hD.gr
  replace hr_b0x := rangeAt_grown hr_b0x hD.gr
  replace hr_b0y := rangeAt_grown hr_b0y hD.gr
  replace hr_b0z := rangeAt_grown hr_b0z hD.gr
  replace hr_b1 := rangeAt_grown hr_b1 hD.gr
  replace hr_b1x := rangeAt_grown hr_b1x hD.gr
  replace hr_b1y := rangeAt_grown hr_b1y hD.gr
  replace hr_b1z := rangeAt_grown hr_b1z hD.gr
  replace hr_b2 := rangeAt_grown hr_b2 hD.gr
  replace hr_b4 := rangeAt_grown hr_b4 hD.gr
  replace hr_b5 := rangeAt_grown hr_b5 hD.gr
  replace ht_b3 := there_grown ht_b3 hD.gr
  replace ht_b4 := there_grown ht_b4 hD.gr
  replace ht_b5 := there_grown ht_b5 hD.gr
  obtain ⟨hf_b6, ht_b6⟩ := hD.nw 5 _ _ rfl
  have hr_b6 : w4.rangeAt (β 5) 0 (rl (d15 (β 4))) := hD.rg 6 5 4 (fun z => rl (d15 (z))) rfl
  replace hf_b6 := Nat.le_trans hW.2.2 hf_b6
  have hz4_4 : (β 4) < H ∧ (β 4) % p = (x) * (u) % p := hD.an 4 _ _ _ rfl
  replace hW := grown_trans hW hD.gr
  clear hD
  simp only [finAct, putAll, valsFrom, Plan.value, Act.put, List.setIfInBounds_toArray, List.set_cons_zero, List.set_cons_succ]
  generalize β (0 + 1 + 1 + 1 + 1 + 1) = b6 at *
  generalize β (0 + 1 + 1 + 1 + 1) = z4_4 at *
  have hq4_4 := Hid.of hz4_4.2
  replace hz4_4 := hz4_4.1
  repeat ((fail_if_success (with_reducible show Code.wp _ (Code.region _ _ _) _ _ _)); go_step)
  refine wp_plain [.imm (.pointer (some ⟨b0, 17, none⟩)), .val (rn (y)), .imm (.pointer (some ⟨b1, 17, none⟩)), .val (rn (v)), .any (fun z => rn (z)) [] (fun l z => z < H ∧ z % p = (y) * (v) % p), .new 77 17, .put 5 4 (fun z => rl (d15 (z)))] (by kernel_rfl) (fun β => ?_) (fun β w5 hD => ?_)
  · refine Obs.cons (Ob.imm rfl (fun w => by kernel_rfl)) ?_
    refine Obs.cons (Ob.load (b0) 17 (rl (d15 (y))) rfl rfl (by kernel_rfl) hr_b0y Tryd.underlying77 rfl (by rw [rl_length]; exact infoR)) ?_
    refine Obs.cons (Ob.imm rfl (fun w => by kernel_rfl)) ?_
    refine Obs.cons (Ob.load (b1) 17 (rl (d15 (v))) rfl rfl (by kernel_rfl) hr_b1y Tryd.underlying77 rfl (by rw [rl_length]; exact infoR)) ?_
    refine Obs.cons (Ob.any 68 #[rn (y), rn (v)] rfl (fun w => by kernel_rfl) (fun hk w hg => times_r (y) (v) hy hv w)) ?_
    refine Obs.cons (Ob.new _ rfl rfl zeroR (by simp [rl_length])) ?_
    refine Obs.cons (Ob.put 77 rfl rfl rfl (by kernel_rfl) (by kernel_rfl) (by rw [rl_length]; exact infoR) (rl_one _)) ?_
    exact Obs.nil
  replace hr_b0 := rangeAt_grown hr_b0 hD.gr
  replace hr_b0x := rangeAt_grown hr_b0x hD.gr
  replace hr_b0y := rangeAt_grown hr_b0y hD.gr
  replace hr_b0z := rangeAt_grown hr_b0z hD.gr
  replace hr_b1 := rangeAt_grown hr_b1 hD.gr
  replace hr_b1x := rangeAt_grown hr_b1x hD.gr
  replace hr_b1y := rangeAt_grown hr_b1y hD.gr
  replace hr_b1z := rangeAt_grown hr_b1z hD.gr
  replace hr_b2 := rangeAt_grown hr_b2 hD.gr
  replace hr_b4 := rangeAt_grown hr_b4 hD.gr
  replace hr_b5 := rangeAt_grown hr_b5 hD.gr
  replace hr_b6 := rangeAt_grown hr_b6 hD.gr
  replace ht_b3 := there_grown ht_b3 hD.gr
  replace ht_b4 := there_grown ht_b4 hD.gr
  replace ht_b5 := there_grown ht_b5 hD.gr
  replace ht_b6 := there_grown ht_b6 hD.gr
  obtain ⟨hf_b7, ht_b7⟩ := hD.nw 5 _ _ rfl
  have hr_b7 : w5.rangeAt (β 5) 0 (rl (d15 (β 4))) := hD.rg 6 5 4 (fun z => rl (d15 (z))) rfl
  replace hf_b7 := Nat.le_trans hW.2.2 hf_b7
  have hz5_4 : (β 4) < H ∧ (β 4) % p = (y) * (v) % p := hD.an 4 _ _ _ rfl
  replace hW := grown_trans hW hD.gr
  clear hD
  simp only [finAct, putAll, valsFrom, Plan.value, Act.put, List.setIfInBounds_toArray, List.set_cons_zero, List.set_cons_succ]
  generalize β (0 + 1 + 1 + 1 + 1 + 1) = b7 at *
  generalize β (0 + 1 + 1 + 1 + 1) = z5_4 at *
  have hq5_4 := Hid.of hz5_4.2
  replace hz5_4 := hz5_4.1
  repeat ((fail_if_success (with_reducible show Code.wp _ (Code.region _ _ _) _ _ _)); go_step)
  replace hr_b0 := rangeAt_grown hr_b0 (gdrew w5)
  replace hr_b0x := rangeAt_grown hr_b0x (gdrew w5)
  replace hr_b0y := rangeAt_grown hr_b0y (gdrew w5)
  replace hr_b0z := rangeAt_grown hr_b0z (gdrew w5)
  replace hr_b1 := rangeAt_grown hr_b1 (gdrew w5)
  replace hr_b1x := rangeAt_grown hr_b1x (gdrew w5)
  replace hr_b1y := rangeAt_grown hr_b1y (gdrew w5)
  replace hr_b1z := rangeAt_grown hr_b1z (gdrew w5)
  replace hr_b2 := rangeAt_grown hr_b2 (gdrew w5)
  replace hr_b4 := rangeAt_grown hr_b4 (gdrew w5)
  replace hr_b5 := rangeAt_grown hr_b5 (gdrew w5)
  replace hr_b6 := rangeAt_grown hr_b6 (gdrew w5)
  replace hr_b7 := rangeAt_grown hr_b7 (gdrew w5)
  replace ht_b3 := there_grown ht_b3 (gdrew w5)
  replace ht_b4 := there_grown ht_b4 (gdrew w5)
  replace ht_b5 := there_grown ht_b5 (gdrew w5)
  replace ht_b6 := there_grown ht_b6 (gdrew w5)
  replace ht_b7 := there_grown ht_b7 (gdrew w5)
  replace hW := grown_trans hW (gdrew w5)
  refine wp_loose [.val (rn (d)), .val (rn (z4_4)), .val (rn (z5_4)), .any (fun z => rn (z)) [] (fun l z => z < H ∧ z % p = (z4_4) * (z5_4) % p), .any (fun z => rn (z)) [3] (fun l z => z < H ∧ z % p = (d) * (l.getD 0 0) % p), .new 77 17, .put 5 4 (fun z => rl (d15 (z)))] (by kernel_rfl) (by kernel_rfl) (fun β => ?_) (fun β w6 hD => ?_)
  · refine Obs.cons (Ob.load (b2) 0 (rl (d15 (d))) rfl rfl (by kernel_rfl) hr_b2 Tryd.underlying77 rfl (by rw [rl_length]; exact infoR)) ?_
    refine Obs.cons (Ob.load (b6) 0 (rl (d15 (z4_4))) rfl rfl (by kernel_rfl) hr_b6 Tryd.underlying77 rfl (by rw [rl_length]; exact infoR)) ?_
    refine Obs.cons (Ob.load (b7) 0 (rl (d15 (z5_4))) rfl rfl (by kernel_rfl) hr_b7 Tryd.underlying77 rfl (by rw [rl_length]; exact infoR)) ?_
    refine Obs.cons (Ob.any 68 #[rn (z4_4), rn (z5_4)] rfl (fun w => by kernel_rfl) (fun hk w hg => times_r (z4_4) (z5_4) hz4_4 hz5_4 w)) ?_
    refine Obs.cons (Ob.any 68 #[rn (d), rn (β 3)] rfl (fun w => by kernel_rfl) (fun hk w hg => times_r (d) (β 3) hd (hk 3 _ _ _ rfl (bindsTo_spec (by kernel_rfl))).1 w)) ?_
    refine Obs.cons (Ob.new _ rfl rfl zeroR (by simp [rl_length])) ?_
    refine Obs.cons (Ob.put 77 rfl rfl rfl (by kernel_rfl) (by kernel_rfl) (by rw [rl_length]; exact infoR) (rl_one _)) ?_
    exact Obs.nil
  replace hr_b0 := rangeAt_grown hr_b0 hD.gr
  replace hr_b0x := rangeAt_grown hr_b0x hD.gr
  replace hr_b0y := rangeAt_grown hr_b0y hD.gr
  replace hr_b0z := rangeAt_grown hr_b0z hD.gr
  replace hr_b1 := rangeAt_grown hr_b1 hD.gr
  replace hr_b1x := rangeAt_grown hr_b1x hD.gr
  replace hr_b1y := rangeAt_grown hr_b1y hD.gr
  replace hr_b1z := rangeAt_grown hr_b1z hD.gr
  replace hr_b2 := rangeAt_grown hr_b2 hD.gr
  replace hr_b4 := rangeAt_grown hr_b4 hD.gr
  replace hr_b5 := rangeAt_grown hr_b5 hD.gr
  replace hr_b6 := rangeAt_grown hr_b6 hD.gr
  replace hr_b7 := rangeAt_grown hr_b7 hD.gr
  replace ht_b3 := there_grown ht_b3 hD.gr
  replace ht_b4 := there_grown ht_b4 hD.gr
  replace ht_b5 := there_grown ht_b5 hD.gr
  replace ht_b6 := there_grown ht_b6 hD.gr
  replace ht_b7 := there_grown ht_b7 hD.gr
  obtain ⟨hf_b8, ht_b8⟩ := hD.nw 5 _ _ rfl
  have hr_b8 : w6.rangeAt (β 5) 0 (rl (d15 (β 4))) := hD.rg 6 5 4 (fun z => rl (d15 (z))) rfl
  replace hf_b8 := Nat.le_trans hW.2.2 hf_b8
  have hz6_3 : (β 3) < H ∧ (β 3) % p = (z4_4) * (z5_4) % p := hD.an 3 _ _ _ rfl
  have hz6_4 : (β 4) < H ∧ (β 4) % p = (d) * (β 3) % p := hD.an 4 _ _ _ rfl
  replace hW := grown_trans hW hD.gr
  clear hD
  simp only [finAct, putAll, valsFrom, Plan.value, Act.put, List.setIfInBounds_toArray, List.set_cons_zero, List.set_cons_succ]
  generalize β (0 + 1 + 1 + 1 + 1 + 1) = b8 at *
  generalize β (0 + 1 + 1 + 1) = z6_3 at *
  generalize β (0 + 1 + 1 + 1 + 1) = z6_4 at *
  have hq6_3 := Hid.of hz6_3.2
  replace hz6_3 := hz6_3.1
  have hq6_4 := Hid.of hz6_4.2
  replace hz6_4 := hz6_4.1
  repeat ((fail_if_success (with_reducible show Code.wp _ (Code.region _ _ _) _ _ _)); go_step)
  refine wp_plain [.val (rn (z3_2)), .val (rn (z6_4)), .any (fun z => rn (z)) [] (fun l z => z < H ∧ z % p = ((z3_2) + (z6_4)) % p), .new 77 17, .put 3 2 (fun z => rl (d15 (z)))] (by kernel_rfl) (fun β => ?_) (fun β w7 hD => ?_)
  · refine Obs.cons (Ob.load (b5) 0 (rl (d15 (z3_2))) rfl rfl (by kernel_rfl) hr_b5 Tryd.underlying77 rfl (by rw [rl_length]; exact infoR)) ?_
    refine Obs.cons (Ob.load (b8) 0 (rl (d15 (z6_4))) rfl rfl (by kernel_rfl) hr_b8 Tryd.underlying77 rfl (by rw [rl_length]; exact infoR)) ?_
    refine Obs.cons (Ob.any 69 #[rn (z3_2), rn (z6_4)] rfl (fun w => by kernel_rfl) (fun hk w hg => plus_r (z3_2) (z6_4) hz3_2 hz6_4 w)) ?_
    refine Obs.cons (Ob.new _ rfl rfl zeroR (by simp [rl_length])) ?_
    refine Obs.cons (Ob.put 77 rfl rfl rfl (by kernel_rfl) (by kernel_rfl) (by rw [rl_length]; exact infoR) (rl_one _)) ?_
    exact Obs.nil
  replace hr_b0 := rangeAt_grown hr_b0 hD.gr
  replace hr_b0x := rangeAt_grown hr_b0x hD.gr
  replace hr_b0y := rangeAt_grown hr_b0y hD.gr
  replace hr_b0z := rangeAt_grown hr_b0z hD.gr
  replace hr_b1 := rangeAt_grown hr_b1 hD.gr
  replace hr_b1x := rangeAt_grown hr_b1x hD.gr
  replace hr_b1y := rangeAt_grown hr_b1y hD.gr
  replace hr_b1z := rangeAt_grown hr_b1z hD.gr
  replace hr_b2 := rangeAt_grown hr_b2 hD.gr
  replace hr_b4 := rangeAt_grown hr_b4 hD.gr
  replace hr_b5 := rangeAt_grown hr_b5 hD.gr
  replace hr_b6 := rangeAt_grown hr_b6 hD.gr
  replace hr_b7 := rangeAt_grown hr_b7 hD.gr
  replace hr_b8 := rangeAt_grown hr_b8 hD.gr
  replace ht_b3 := there_grown ht_b3 hD.gr
  replace ht_b4 := there_grown ht_b4 hD.gr
  replace ht_b5 := there_grown ht_b5 hD.gr
  replace ht_b6 := there_grown ht_b6 hD.gr
  replace ht_b7 := there_grown ht_b7 hD.gr
  replace ht_b8 := there_grown ht_b8 hD.gr
  obtain ⟨hf_b9, ht_b9⟩ := hD.nw 3 _ _ rfl
  have hr_b9 : w7.rangeAt (β 3) 0 (rl (d15 (β 2))) := hD.rg 4 3 2 (fun z => rl (d15 (z))) rfl
  replace hf_b9 := Nat.le_trans hW.2.2 hf_b9
  have hz7_2 : (β 2) < H ∧ (β 2) % p = ((z3_2) + (z6_4)) % p := hD.an 2 _ _ _ rfl
  replace hW := grown_trans hW hD.gr
  clear hD
  simp only [finAct, putAll, valsFrom, Plan.value, Act.put, List.setIfInBounds_toArray, List.set_cons_zero, List.set_cons_succ]
  generalize β (0 + 1 + 1 + 1) = b9 at *
  generalize β (0 + 1 + 1) = z7_2 at *
  have hq7_2 := Hid.of hz7_2.2
  replace hz7_2 := hz7_2.1
  repeat ((fail_if_success (with_reducible show Code.wp _ (Code.region _ _ _) _ _ _)); go_step)
  refine wp_plain [.val (rn (z3_2)), .val (rn (z6_4)), .any (fun z => rn (z)) [] (fun l z => z < H ∧ z % p = sb (z3_2) (z6_4)), .new 77 17, .put 3 2 (fun z => rl (d15 (z)))] (by kernel_rfl) (fun β => ?_) (fun β w8 hD => ?_)
  · refine Obs.cons (Ob.load (b5) 0 (rl (d15 (z3_2))) rfl rfl (by kernel_rfl) hr_b5 Tryd.underlying77 rfl (by rw [rl_length]; exact infoR)) ?_
    refine Obs.cons (Ob.load (b8) 0 (rl (d15 (z6_4))) rfl rfl (by kernel_rfl) hr_b8 Tryd.underlying77 rfl (by rw [rl_length]; exact infoR)) ?_
    refine Obs.cons (Ob.any 71 #[rn (z3_2), rn (z6_4)] rfl (fun w => by kernel_rfl) (fun hk w hg => minus_r (z3_2) (z6_4) hz3_2 hz6_4 w)) ?_
    refine Obs.cons (Ob.new _ rfl rfl zeroR (by simp [rl_length])) ?_
    refine Obs.cons (Ob.put 77 rfl rfl rfl (by kernel_rfl) (by kernel_rfl) (by rw [rl_length]; exact infoR) (rl_one _)) ?_
    exact Obs.nil
  replace hr_b0 := rangeAt_grown hr_b0 hD.gr
  replace hr_b0x := rangeAt_grown hr_b0x hD.gr
  replace hr_b0y := rangeAt_grown hr_b0y hD.gr
  replace hr_b0z := rangeAt_grown hr_b0z hD.gr
  replace hr_b1 := rangeAt_grown hr_b1 hD.gr
  replace hr_b1x := rangeAt_grown hr_b1x hD.gr
  replace hr_b1y := rangeAt_grown hr_b1y hD.gr
  replace hr_b1z := rangeAt_grown hr_b1z hD.gr
  replace hr_b2 := rangeAt_grown hr_b2 hD.gr
  replace hr_b4 := rangeAt_grown hr_b4 hD.gr
  replace hr_b5 := rangeAt_grown hr_b5 hD.gr
  replace hr_b6 := rangeAt_grown hr_b6 hD.gr
  replace hr_b7 := rangeAt_grown hr_b7 hD.gr
  replace hr_b8 := rangeAt_grown hr_b8 hD.gr
  replace hr_b9 := rangeAt_grown hr_b9 hD.gr
  replace ht_b3 := there_grown ht_b3 hD.gr
  replace ht_b4 := there_grown ht_b4 hD.gr
  replace ht_b5 := there_grown ht_b5 hD.gr
  replace ht_b6 := there_grown ht_b6 hD.gr
  replace ht_b7 := there_grown ht_b7 hD.gr
  replace ht_b8 := there_grown ht_b8 hD.gr
  replace ht_b9 := there_grown ht_b9 hD.gr
  obtain ⟨hf_b10, ht_b10⟩ := hD.nw 3 _ _ rfl
  have hr_b10 : w8.rangeAt (β 3) 0 (rl (d15 (β 2))) := hD.rg 4 3 2 (fun z => rl (d15 (z))) rfl
  replace hf_b10 := Nat.le_trans hW.2.2 hf_b10
  have hz8_2 : (β 2) < H ∧ (β 2) % p = sb (z3_2) (z6_4) := hD.an 2 _ _ _ rfl
  replace hW := grown_trans hW hD.gr
  clear hD
  simp only [finAct, putAll, valsFrom, Plan.value, Act.put, List.setIfInBounds_toArray, List.set_cons_zero, List.set_cons_succ]
  generalize β (0 + 1 + 1 + 1) = b10 at *
  generalize β (0 + 1 + 1) = z8_2 at *
  have hq8_2 := Hid.of hz8_2.2
  replace hz8_2 := hz8_2.1
  repeat ((fail_if_success (with_reducible show Code.wp _ (Code.region _ _ _) _ _ _)); go_step)
  replace hr_b0 := rangeAt_grown hr_b0 (gdrew w8)
  replace hr_b0x := rangeAt_grown hr_b0x (gdrew w8)
  replace hr_b0y := rangeAt_grown hr_b0y (gdrew w8)
  replace hr_b0z := rangeAt_grown hr_b0z (gdrew w8)
  replace hr_b1 := rangeAt_grown hr_b1 (gdrew w8)
  replace hr_b1x := rangeAt_grown hr_b1x (gdrew w8)
  replace hr_b1y := rangeAt_grown hr_b1y (gdrew w8)
  replace hr_b1z := rangeAt_grown hr_b1z (gdrew w8)
  replace hr_b2 := rangeAt_grown hr_b2 (gdrew w8)
  replace hr_b4 := rangeAt_grown hr_b4 (gdrew w8)
  replace hr_b5 := rangeAt_grown hr_b5 (gdrew w8)
  replace hr_b6 := rangeAt_grown hr_b6 (gdrew w8)
  replace hr_b7 := rangeAt_grown hr_b7 (gdrew w8)
  replace hr_b8 := rangeAt_grown hr_b8 (gdrew w8)
  replace hr_b9 := rangeAt_grown hr_b9 (gdrew w8)
  replace hr_b10 := rangeAt_grown hr_b10 (gdrew w8)
  replace ht_b3 := there_grown ht_b3 (gdrew w8)
  replace ht_b4 := there_grown ht_b4 (gdrew w8)
  replace ht_b5 := there_grown ht_b5 (gdrew w8)
  replace ht_b6 := there_grown ht_b6 (gdrew w8)
  replace ht_b7 := there_grown ht_b7 (gdrew w8)
  replace ht_b8 := there_grown ht_b8 (gdrew w8)
  replace ht_b9 := there_grown ht_b9 (gdrew w8)
  replace ht_b10 := there_grown ht_b10 (gdrew w8)
  replace hW := grown_trans hW (gdrew w8)
  refine wp_loose [.imm (.pointer (some ⟨b0, 0, none⟩)), .val (rn (x)), .imm (.pointer (some ⟨b1, 17, none⟩)), .val (rn (v)), .any (fun z => rn (z)) [] (fun l z => z < H ∧ z % p = (x) * (v) % p), .imm (.pointer (some ⟨b0, 17, none⟩)), .val (rn (y)), .imm (.pointer (some ⟨b1, 0, none⟩)), .val (rn (u)), .any (fun z => rn (z)) [] (fun l z => z < H ∧ z % p = (y) * (u) % p), .any (fun z => rn (z)) [4, 9] (fun l z => z < H ∧ z % p = ((l.getD 0 0) + (l.getD 1 0)) % p), .new 77 17, .put 11 10 (fun z => rl (d15 (z)))] (by kernel_rfl) (by kernel_rfl) (fun β => ?_) (fun β w9 hD => ?_)
  · refine Obs.cons (Ob.imm rfl (fun w => by kernel_rfl)) ?_
    refine Obs.cons (Ob.load (b0) 0 (rl (d15 (x))) rfl rfl (by kernel_rfl) hr_b0x Tryd.underlying77 rfl (by rw [rl_length]; exact infoR)) ?_
    refine Obs.cons (Ob.imm rfl (fun w => by kernel_rfl)) ?_
    refine Obs.cons (Ob.load (b1) 17 (rl (d15 (v))) rfl rfl (by kernel_rfl) hr_b1y Tryd.underlying77 rfl (by rw [rl_length]; exact infoR)) ?_
    refine Obs.cons (Ob.any 68 #[rn (x), rn (v)] rfl (fun w => by kernel_rfl) (fun hk w hg => times_r (x) (v) hx hv w)) ?_
    refine Obs.cons (Ob.imm rfl (fun w => by kernel_rfl)) ?_
    refine Obs.cons (Ob.load (b0) 17 (rl (d15 (y))) rfl rfl (by kernel_rfl) hr_b0y Tryd.underlying77 rfl (by rw [rl_length]; exact infoR)) ?_
    refine Obs.cons (Ob.imm rfl (fun w => by kernel_rfl)) ?_
    refine Obs.cons (Ob.load (b1) 0 (rl (d15 (u))) rfl rfl (by kernel_rfl) hr_b1x Tryd.underlying77 rfl (by rw [rl_length]; exact infoR)) ?_
    refine Obs.cons (Ob.any 68 #[rn (y), rn (u)] rfl (fun w => by kernel_rfl) (fun hk w hg => times_r (y) (u) hy hu w)) ?_
    refine Obs.cons (Ob.any 69 #[rn (β 4), rn (β 9)] rfl (fun w => by kernel_rfl) (fun hk w hg => plus_r (β 4) (β 9) (hk 4 _ _ _ rfl (bindsTo_spec (by kernel_rfl))).1 (hk 9 _ _ _ rfl (bindsTo_spec (by kernel_rfl))).1 w)) ?_
    refine Obs.cons (Ob.new _ rfl rfl zeroR (by simp [rl_length])) ?_
    refine Obs.cons (Ob.put 77 rfl rfl rfl (by kernel_rfl) (by kernel_rfl) (by rw [rl_length]; exact infoR) (rl_one _)) ?_
    exact Obs.nil
  replace hr_b0 := rangeAt_grown hr_b0 hD.gr
  replace hr_b0x := rangeAt_grown hr_b0x hD.gr
  replace hr_b0y := rangeAt_grown hr_b0y hD.gr
  replace hr_b0z := rangeAt_grown hr_b0z hD.gr
  replace hr_b1 := rangeAt_grown hr_b1 hD.gr
  replace hr_b1x := rangeAt_grown hr_b1x hD.gr
  replace hr_b1y := rangeAt_grown hr_b1y hD.gr
  replace hr_b1z := rangeAt_grown hr_b1z hD.gr
  replace hr_b2 := rangeAt_grown hr_b2 hD.gr
  replace hr_b4 := rangeAt_grown hr_b4 hD.gr
  replace hr_b5 := rangeAt_grown hr_b5 hD.gr
  replace hr_b6 := rangeAt_grown hr_b6 hD.gr
  replace hr_b7 := rangeAt_grown hr_b7 hD.gr
  replace hr_b8 := rangeAt_grown hr_b8 hD.gr
  replace hr_b9 := rangeAt_grown hr_b9 hD.gr
  replace hr_b10 := rangeAt_grown hr_b10 hD.gr
  replace ht_b3 := there_grown ht_b3 hD.gr
  replace ht_b4 := there_grown ht_b4 hD.gr
  replace ht_b5 := there_grown ht_b5 hD.gr
  replace ht_b6 := there_grown ht_b6 hD.gr
  replace ht_b7 := there_grown ht_b7 hD.gr
  replace ht_b8 := there_grown ht_b8 hD.gr
  replace ht_b9 := there_grown ht_b9 hD.gr
  replace ht_b10 := there_grown ht_b10 hD.gr
  obtain ⟨hf_b11, ht_b11⟩ := hD.nw 11 _ _ rfl
  have hr_b11 : w9.rangeAt (β 11) 0 (rl (d15 (β 10))) := hD.rg 12 11 10 (fun z => rl (d15 (z))) rfl
  replace hf_b11 := Nat.le_trans hW.2.2 hf_b11
  have hz9_4 : (β 4) < H ∧ (β 4) % p = (x) * (v) % p := hD.an 4 _ _ _ rfl
  have hz9_9 : (β 9) < H ∧ (β 9) % p = (y) * (u) % p := hD.an 9 _ _ _ rfl
  have hz9_10 : (β 10) < H ∧ (β 10) % p = ((β 4) + (β 9)) % p := hD.an 10 _ _ _ rfl
  replace hW := grown_trans hW hD.gr
  clear hD
  simp only [finAct, putAll, valsFrom, Plan.value, Act.put, List.setIfInBounds_toArray, List.set_cons_zero, List.set_cons_succ]
  generalize β (0 + 1 + 1 + 1 + 1 + 1 + 1 + 1 + 1 + 1 + 1 + 1) = b11 at *
  generalize β (0 + 1 + 1 + 1 + 1) = z9_4 at *
  generalize β (0 + 1 + 1 + 1 + 1 + 1 + 1 + 1 + 1 + 1) = z9_9 at *
  generalize β (0 + 1 + 1 + 1 + 1 + 1 + 1 + 1 + 1 + 1 + 1) = z9_10 at *
  have hq9_4 := Hid.of hz9_4.2
  replace hz9_4 := hz9_4.1
  have hq9_9 := Hid.of hz9_9.2
  replace hz9_9 := hz9_9.1
  have hq9_10 := Hid.of hz9_10.2
  replace hz9_10 := hz9_10.1
  repeat ((fail_if_success (with_reducible show Code.wp _ (Code.region _ _ _) _ _ _)); go_step)
  refine wp_plain [.val (rn (z5_4)), .val (rn (z4_4)), .any (fun z => rn (z)) [] (fun l z => z < H ∧ z % p = ((z5_4) + (z4_4)) % p), .new 77 17, .put 3 2 (fun z => rl (d15 (z)))] (by kernel_rfl) (fun β => ?_) (fun β w10 hD => ?_)
  · refine Obs.cons (Ob.load (b7) 0 (rl (d15 (z5_4))) rfl rfl (by kernel_rfl) hr_b7 Tryd.underlying77 rfl (by rw [rl_length]; exact infoR)) ?_
    refine Obs.cons (Ob.load (b6) 0 (rl (d15 (z4_4))) rfl rfl (by kernel_rfl) hr_b6 Tryd.underlying77 rfl (by rw [rl_length]; exact infoR)) ?_
    refine Obs.cons (Ob.any 69 #[rn (z5_4), rn (z4_4)] rfl (fun w => by kernel_rfl) (fun hk w hg => plus_r (z5_4) (z4_4) hz5_4 hz4_4 w)) ?_
    refine Obs.cons (Ob.new _ rfl rfl zeroR (by simp [rl_length])) ?_
    refine Obs.cons (Ob.put 77 rfl rfl rfl (by kernel_rfl) (by kernel_rfl) (by rw [rl_length]; exact infoR) (rl_one _)) ?_
    exact Obs.nil
  replace hr_b0 := rangeAt_grown hr_b0 hD.gr
  replace hr_b0x := rangeAt_grown hr_b0x hD.gr
  replace hr_b0y := rangeAt_grown hr_b0y hD.gr
  replace hr_b0z := rangeAt_grown hr_b0z hD.gr
  replace hr_b1 := rangeAt_grown hr_b1 hD.gr
  replace hr_b1x := rangeAt_grown hr_b1x hD.gr
  replace hr_b1y := rangeAt_grown hr_b1y hD.gr
  replace hr_b1z := rangeAt_grown hr_b1z hD.gr
  replace hr_b2 := rangeAt_grown hr_b2 hD.gr
  replace hr_b4 := rangeAt_grown hr_b4 hD.gr
  replace hr_b5 := rangeAt_grown hr_b5 hD.gr
  replace hr_b6 := rangeAt_grown hr_b6 hD.gr
  replace hr_b7 := rangeAt_grown hr_b7 hD.gr
  replace hr_b8 := rangeAt_grown hr_b8 hD.gr
  replace hr_b9 := rangeAt_grown hr_b9 hD.gr
  replace hr_b10 := rangeAt_grown hr_b10 hD.gr
  replace hr_b11 := rangeAt_grown hr_b11 hD.gr
  replace ht_b3 := there_grown ht_b3 hD.gr
  replace ht_b4 := there_grown ht_b4 hD.gr
  replace ht_b5 := there_grown ht_b5 hD.gr
  replace ht_b6 := there_grown ht_b6 hD.gr
  replace ht_b7 := there_grown ht_b7 hD.gr
  replace ht_b8 := there_grown ht_b8 hD.gr
  replace ht_b9 := there_grown ht_b9 hD.gr
  replace ht_b10 := there_grown ht_b10 hD.gr
  replace ht_b11 := there_grown ht_b11 hD.gr
  obtain ⟨hf_b12, ht_b12⟩ := hD.nw 3 _ _ rfl
  have hr_b12 : w10.rangeAt (β 3) 0 (rl (d15 (β 2))) := hD.rg 4 3 2 (fun z => rl (d15 (z))) rfl
  replace hf_b12 := Nat.le_trans hW.2.2 hf_b12
  have hz10_2 : (β 2) < H ∧ (β 2) % p = ((z5_4) + (z4_4)) % p := hD.an 2 _ _ _ rfl
  replace hW := grown_trans hW hD.gr
  clear hD
  simp only [finAct, putAll, valsFrom, Plan.value, Act.put, List.setIfInBounds_toArray, List.set_cons_zero, List.set_cons_succ]
  generalize β (0 + 1 + 1 + 1) = b12 at *
  generalize β (0 + 1 + 1) = z10_2 at *
  have hq10_2 := Hid.of hz10_2.2
  replace hz10_2 := hz10_2.1
  repeat ((fail_if_success (with_reducible show Code.wp _ (Code.region _ _ _) _ _ _)); go_step)
  replace hr_b0 := rangeAt_grown hr_b0 (gdrew w10)
  replace hr_b0x := rangeAt_grown hr_b0x (gdrew w10)
  replace hr_b0y := rangeAt_grown hr_b0y (gdrew w10)
  replace hr_b0z := rangeAt_grown hr_b0z (gdrew w10)
  replace hr_b1 := rangeAt_grown hr_b1 (gdrew w10)
  replace hr_b1x := rangeAt_grown hr_b1x (gdrew w10)
  replace hr_b1y := rangeAt_grown hr_b1y (gdrew w10)
  replace hr_b1z := rangeAt_grown hr_b1z (gdrew w10)
  replace hr_b2 := rangeAt_grown hr_b2 (gdrew w10)
  replace hr_b4 := rangeAt_grown hr_b4 (gdrew w10)
  replace hr_b5 := rangeAt_grown hr_b5 (gdrew w10)
  replace hr_b6 := rangeAt_grown hr_b6 (gdrew w10)
  replace hr_b7 := rangeAt_grown hr_b7 (gdrew w10)
  replace hr_b8 := rangeAt_grown hr_b8 (gdrew w10)
  replace hr_b9 := rangeAt_grown hr_b9 (gdrew w10)
  replace hr_b10 := rangeAt_grown hr_b10 (gdrew w10)
  replace hr_b11 := rangeAt_grown hr_b11 (gdrew w10)
  replace hr_b12 := rangeAt_grown hr_b12 (gdrew w10)
  replace ht_b3 := there_grown ht_b3 (gdrew w10)
  replace ht_b4 := there_grown ht_b4 (gdrew w10)
  replace ht_b5 := there_grown ht_b5 (gdrew w10)
  replace ht_b6 := there_grown ht_b6 (gdrew w10)
  replace ht_b7 := there_grown ht_b7 (gdrew w10)
  replace ht_b8 := there_grown ht_b8 (gdrew w10)
  replace ht_b9 := there_grown ht_b9 (gdrew w10)
  replace ht_b10 := there_grown ht_b10 (gdrew w10)
  replace ht_b11 := there_grown ht_b11 (gdrew w10)
  replace ht_b12 := there_grown ht_b12 (gdrew w10)
  replace hW := grown_trans hW (gdrew w10)
  refine wp_loose_fin [.val (rn (z2_4)), .val (rn (z9_10)), .any (fun z => rn (z)) [] (fun l z => z < H ∧ z % p = (z2_4) * (z9_10) % p), .val (rn (z8_2)), .any (fun z => rn (z)) [2] (fun l z => z < H ∧ z % p = (l.getD 0 0) * (z8_2) % p), .val (rn (z2_4)), .val (rn (z10_2)), .any (fun z => rn (z)) [] (fun l z => z < H ∧ z % p = (z2_4) * (z10_2) % p), .val (rn (z7_2)), .any (fun z => rn (z)) [7] (fun l z => z < H ∧ z % p = (l.getD 0 0) * (z7_2) % p), .val (rn (z7_2)), .val (rn (z8_2)), .any (fun z => rn (z)) [] (fun l z => z < H ∧ z % p = (z7_2) * (z8_2) % p), .any (fun z => cv (z % H) (z / H % H) (z / H / H)) [4, 9, 12] (fun l z => z / H / H < H ∧ z = l.getD 0 0 + H * (l.getD 1 0 + H * l.getD 2 0)), .fin] (b3) 0 (fun β => ccs ((β 13) % H) ((β 13) / H % H) ((β 13) / H / H)) (by kernel_rfl) (by kernel_rfl) (fun β => ?_) (fun β w11 hD => ?_)
  · refine Obs.cons (Ob.load (b4) 0 (rl (d15 (z2_4))) rfl rfl (by kernel_rfl) hr_b4 Tryd.underlying77 rfl (by rw [rl_length]; exact infoR)) ?_
    refine Obs.cons (Ob.load (b11) 0 (rl (d15 (z9_10))) rfl rfl (by kernel_rfl) hr_b11 Tryd.underlying77 rfl (by rw [rl_length]; exact infoR)) ?_
    refine Obs.cons (Ob.any 68 #[rn (z2_4), rn (z9_10)] rfl (fun w => by kernel_rfl) (fun hk w hg => times_r (z2_4) (z9_10) hz2_4 hz9_10 w)) ?_
    refine Obs.cons (Ob.load (b10) 0 (rl (d15 (z8_2))) rfl rfl (by kernel_rfl) hr_b10 Tryd.underlying77 rfl (by rw [rl_length]; exact infoR)) ?_
    refine Obs.cons (Ob.any 68 #[rn (β 2), rn (z8_2)] rfl (fun w => by kernel_rfl) (fun hk w hg => times_r (β 2) (z8_2) (hk 2 _ _ _ rfl (bindsTo_spec (by kernel_rfl))).1 hz8_2 w)) ?_
    refine Obs.cons (Ob.load (b4) 0 (rl (d15 (z2_4))) rfl rfl (by kernel_rfl) hr_b4 Tryd.underlying77 rfl (by rw [rl_length]; exact infoR)) ?_
    refine Obs.cons (Ob.load (b12) 0 (rl (d15 (z10_2))) rfl rfl (by kernel_rfl) hr_b12 Tryd.underlying77 rfl (by rw [rl_length]; exact infoR)) ?_
    refine Obs.cons (Ob.any 68 #[rn (z2_4), rn (z10_2)] rfl (fun w => by kernel_rfl) (fun hk w hg => times_r (z2_4) (z10_2) hz2_4 hz10_2 w)) ?_
    refine Obs.cons (Ob.load (b9) 0 (rl (d15 (z7_2))) rfl rfl (by kernel_rfl) hr_b9 Tryd.underlying77 rfl (by rw [rl_length]; exact infoR)) ?_
    refine Obs.cons (Ob.any 68 #[rn (β 7), rn (z7_2)] rfl (fun w => by kernel_rfl) (fun hk w hg => times_r (β 7) (z7_2) (hk 7 _ _ _ rfl (bindsTo_spec (by kernel_rfl))).1 hz7_2 w)) ?_
    refine Obs.cons (Ob.load (b9) 0 (rl (d15 (z7_2))) rfl rfl (by kernel_rfl) hr_b9 Tryd.underlying77 rfl (by rw [rl_length]; exact infoR)) ?_
    refine Obs.cons (Ob.load (b10) 0 (rl (d15 (z8_2))) rfl rfl (by kernel_rfl) hr_b10 Tryd.underlying77 rfl (by rw [rl_length]; exact infoR)) ?_
    refine Obs.cons (Ob.any 68 #[rn (z7_2), rn (z8_2)] rfl (fun w => by kernel_rfl) (fun hk w hg => times_r (z7_2) (z8_2) hz7_2 hz8_2 w)) ?_
    refine Obs.cons (Ob.der (β 4 + H * (β 9 + H * β 12)) rfl (fun hk w => exec_as (pack_eq ((hk 4 _ _ _ rfl (bindsTo_spec (by kernel_rfl))).1) ((hk 9 _ _ _ rfl (bindsTo_spec (by kernel_rfl))).1)) (exec_build rfl (by kernel_rfl) (build_c _ _ _ w))) (fun hk => ⟨pack_lt ((hk 4 _ _ _ rfl (bindsTo_spec (by kernel_rfl))).1) ((hk 9 _ _ _ rfl (bindsTo_spec (by kernel_rfl))).1) ((hk 12 _ _ _ rfl (bindsTo_spec (by kernel_rfl))).1), rfl⟩)) ?_
    refine Obs.cons (Ob.fin rfl (by rw [ccs_length]; exact ht_b3) rfl (by kernel_rfl) (by kernel_rfl) (by rw [ccs_length]; exact infoC) (ccs_one _ _ _)) ?_
    exact Obs.nil
  replace hr_b0 := rangeAt_grown hr_b0 hD.gr
  replace hr_b0x := rangeAt_grown hr_b0x hD.gr
  replace hr_b0y := rangeAt_grown hr_b0y hD.gr
  replace hr_b0z := rangeAt_grown hr_b0z hD.gr
  replace hr_b1 := rangeAt_grown hr_b1 hD.gr
  replace hr_b1x := rangeAt_grown hr_b1x hD.gr
  replace hr_b1y := rangeAt_grown hr_b1y hD.gr
  replace hr_b1z := rangeAt_grown hr_b1z hD.gr
  replace hr_b2 := rangeAt_grown hr_b2 hD.gr
  replace hr_b4 := rangeAt_grown hr_b4 hD.gr
  replace hr_b5 := rangeAt_grown hr_b5 hD.gr
  replace hr_b6 := rangeAt_grown hr_b6 hD.gr
  replace hr_b7 := rangeAt_grown hr_b7 hD.gr
  replace hr_b8 := rangeAt_grown hr_b8 hD.gr
  replace hr_b9 := rangeAt_grown hr_b9 hD.gr
  replace hr_b10 := rangeAt_grown hr_b10 hD.gr
  replace hr_b11 := rangeAt_grown hr_b11 hD.gr
  replace hr_b12 := rangeAt_grown hr_b12 hD.gr
  replace ht_b3 := there_grown ht_b3 hD.gr
  replace ht_b4 := there_grown ht_b4 hD.gr
  replace ht_b5 := there_grown ht_b5 hD.gr
  replace ht_b6 := there_grown ht_b6 hD.gr
  replace ht_b7 := there_grown ht_b7 hD.gr
  replace ht_b8 := there_grown ht_b8 hD.gr
  replace ht_b9 := there_grown ht_b9 hD.gr
  replace ht_b10 := there_grown ht_b10 hD.gr
  replace ht_b11 := there_grown ht_b11 hD.gr
  replace ht_b12 := there_grown ht_b12 hD.gr
  have hz11_2 : (β 2) < H ∧ (β 2) % p = (z2_4) * (z9_10) % p := hD.an 2 _ _ _ rfl
  have hz11_4 : (β 4) < H ∧ (β 4) % p = (β 2) * (z8_2) % p := hD.an 4 _ _ _ rfl
  have hz11_7 : (β 7) < H ∧ (β 7) % p = (z2_4) * (z10_2) % p := hD.an 7 _ _ _ rfl
  have hz11_9 : (β 9) < H ∧ (β 9) % p = (β 7) * (z7_2) % p := hD.an 9 _ _ _ rfl
  have hz11_12 : (β 12) < H ∧ (β 12) % p = (z7_2) * (z8_2) % p := hD.an 12 _ _ _ rfl
  have hz11_13 : (β 13) / H / H < H ∧ (β 13) = β 4 + H * (β 9 + H * β 12) := hD.an 13 _ _ _ rfl
  replace hW := grown_trans hW hD.gr
  clear hD
  simp only [finAct, putAll, valsFrom, Plan.value, Act.put, List.setIfInBounds_toArray, List.set_cons_zero, List.set_cons_succ]
  generalize β (0 + 1 + 1) = z11_2 at *
  generalize β (0 + 1 + 1 + 1 + 1) = z11_4 at *
  generalize β (0 + 1 + 1 + 1 + 1 + 1 + 1 + 1) = z11_7 at *
  generalize β (0 + 1 + 1 + 1 + 1 + 1 + 1 + 1 + 1 + 1) = z11_9 at *
  generalize β (0 + 1 + 1 + 1 + 1 + 1 + 1 + 1 + 1 + 1 + 1 + 1 + 1) = z11_12 at *
  generalize β (0 + 1 + 1 + 1 + 1 + 1 + 1 + 1 + 1 + 1 + 1 + 1 + 1 + 1) = z11_13 at *
  have hq11_2 := Hid.of hz11_2.2
  replace hz11_2 := hz11_2.1
  have hq11_4 := Hid.of hz11_4.2
  replace hz11_4 := hz11_4.1
  have hq11_7 := Hid.of hz11_7.2
  replace hz11_7 := hz11_7.1
  have hq11_9 := Hid.of hz11_9.2
  replace hz11_9 := hz11_9.1
  have hq11_12 := Hid.of hz11_12.2
  replace hz11_12 := hz11_12.1
  have hq11_13 := Hid.of hz11_13.2
  replace hz11_13 := hz11_13.1
  have hs11 := World.rangeAt_setCells_same w11 (b3) 0 (ccs ((z11_13) % H) ((z11_13) / H % H) ((z11_13) / H / H)) (by rw [ccs_length]; exact ht_b3)
  replace hW := grown_setCells hf_b3 (ccs ((z11_13) % H) ((z11_13) / H % H) ((z11_13) / H / H)) 0 hW
  generalize w11.setCells (b3) 0 (ccs ((z11_13) % H) ((z11_13) / H % H) ((z11_13) / H / H)) = w11s at *
  repeat go_step
  refine bodyPost_ret (v := cv ((z11_13) % H) ((z11_13) / H % H) ((z11_13) / H / H)) (result_cells Tryd.results79 _ _ (b3) (ccs ((z11_13) % H) ((z11_13) / H % H) ((z11_13) / H / H)) ?hp hs11 Tryd.underlying80 rfl (by rw [ccs_length]; exact infoC)) ?hd ?_
  case hp => rfl
  case hd => rfl
  refine ⟨⟨_, rfl, hz11_13, ?_⟩, hW⟩
  have k1 := φ_m hq2_4.out
  have k2 := φ_m hq3_2.out
  have k3 := φ_m hq4_4.out
  have k4 := φ_m hq5_4.out
  have k5 := φ_m hq6_3.out
  have k6 := φ_m hq6_4.out
  have k7 := φ_a hq7_2.out
  have k8 := φ_s hq8_2.out
  have k9 := φ_m hq9_4.out
  have k10 := φ_m hq9_9.out
  have k11 := φ_a hq9_10.out
  have k12 := φ_a hq10_2.out
  have k13 := φ_m hq11_2.out
  have k14 := φ_m hq11_4.out
  have k15 := φ_m hq11_7.out
  have k16 := φ_m hq11_9.out
  have k17 := φ_m hq11_12.out
  unfold SumR rX rY rZ
  rw [hq11_13.out, pack_0 hz11_4, pack_2 hz11_4 hz11_9, pack_3 hz11_4 hz11_9]
  simp only [k1, k2, k3, k4, k5, k6, k7, k8, k9, k10, k11, k12, k13, k14, k15, k16, k17, and_self]

theorem told_sum (x y u v N : Nat) (hz : N / H / H < H) (h : SumR x y 1 u v 1 dd N) (w : World) : Calls Tryd.prog 59 #[cv (N % H) (N / H % H) (N / H / H)] w fun e w' => e = .returned (pv (aX x y u v) (aY x y u v)) ∧ Grown w w' := by
  have := told_r (N % H) (N / H % H) (N / H / H) (mod_HH _) (mod_HH _) hz w
  rw [← frac ((φ_sX x y u v).trans h.1.symm) ((φ_sZ x y u v).trans h.2.2.symm), ← frac ((φ_sY x y u v).trans h.2.1.symm) ((φ_sZ x y u v).trans h.2.2.symm)] at this
  exact this
theorem aX_M (x y u v : Nat) : aX x y u v < M := fmul_lt _ _
theorem aY_M (x y u v : Nat) : aY x y u v < M := fmul_lt _ _

set_option maxRecDepth 100000 in
set_option maxHeartbeats 2000000 in
theorem AddR_11 (x y u v : Nat) (hx : x < M) (hy : y < M) (hu : u < M) (hv : v < M) (ho : isP x y) (hq : isP u v) (w : World) (hGl0 : GR w) :
    Calls Tryd.prog 43 #[pv x y, pv u v] w fun ex w' => ex = .returned (.tuple #[pv (aX x y u v) (aY x y u v), .int .i64 0]) ∧ Grown w w' := by
  have hW := Grown.refl w
  have hGl := hGl0
  go_enter Tryd.func43, Tryd.ntmps43
  repeat ((fail_if_success (with_reducible show Code.wp _ (Code.region _ _ _) _ _ _)); go_step)
  refine wp_plain [.box 39 (pcs (x) (y)), .box 39 (pcs (u) (v)), .new 39 64, .imm (.int .i64 (0))] (by kernel_rfl) (fun β => ?_) (fun β w1 hD => ?_)
  · refine Obs.cons (Ob.box rfl rfl (by kernel_rfl)) ?_
    refine Obs.cons (Ob.box rfl rfl (by kernel_rfl)) ?_
    refine Obs.cons (Ob.new _ rfl rfl zeroQ (by simp [pcs_length])) ?_
    refine Obs.cons (Ob.imm rfl (fun w => by kernel_rfl)) ?_
    exact Obs.nil
  obtain ⟨hf_b0, hr_b0⟩ := hD.bx 0 _ _ rfl
  replace hf_b0 := Nat.le_trans hW.2.2 hf_b0
  obtain ⟨hf_b1, hr_b1⟩ := hD.bx 1 _ _ rfl
  replace hf_b1 := Nat.le_trans hW.2.2 hf_b1
  obtain ⟨hf_b2, ht_b2⟩ := hD.nw 2 _ _ rfl
  replace hf_b2 := Nat.le_trans hW.2.2 hf_b2
  replace hW := grown_trans hW hD.gr
  clear hD
  simp only [finAct, putAll, valsFrom, Plan.value, Act.put, List.setIfInBounds_toArray, List.set_cons_zero, List.set_cons_succ]
  replace hGl := hGl0.grown hW
  generalize β 0 = b0 at *
  generalize β (0 + 1) = b1 at *
  generalize β (0 + 1 + 1) = b2 at *
  have hr_b0x : w1.rangeAt b0 0 (bl (x)) := rangeAt_left hr_b0
  have hr_b0y : w1.rangeAt b0 32 (bl (y)) := rangeAt_right 32 (bl_length _) hr_b0
  have hr_b1x : w1.rangeAt b1 0 (bl (u)) := rangeAt_left hr_b1
  have hr_b1y : w1.rangeAt b1 32 (bl (v)) := rangeAt_right 32 (bl_length _) hr_b1
  repeat ((fail_if_success (with_reducible show Code.wp _ (Code.region _ _ _) _ _ _)); go_step)
  refine wp_plain [.val (pv (x) (y)), .val (.bool true), .imm (.bool false), .imm (.bool false), .val (pv (u) (v)), .val (.bool true), .imm (.bool false), .imm (.bool false)] (by kernel_rfl) (fun β => ?_) (fun β w2 hD => ?_)
  · refine Obs.cons (Ob.load (b0) 0 (pcs (x) (y)) rfl rfl (by kernel_rfl) hr_b0 Tryd.underlying39 rfl (by rw [pcs_length]; exact infoQ)) ?_
    refine Obs.cons (Ob.call 38 #[pv (x) (y)] rfl (fun w => by kernel_rfl) (fun w hg => OnR_is (x) (y) hx hy true (decide_eq_true ho) w (hGl.grown hg))) ?_
    refine Obs.cons (Ob.imm rfl (fun w => by kernel_rfl)) ?_
    refine Obs.cons (Ob.imm rfl (fun w => by kernel_rfl)) ?_
    refine Obs.cons (Ob.load (b1) 0 (pcs (u) (v)) (by kernel_rfl) rfl (by kernel_rfl) hr_b1 Tryd.underlying39 rfl (by rw [pcs_length]; exact infoQ)) ?_
    refine Obs.cons (Ob.call 38 #[pv (u) (v)] (by kernel_rfl) (fun w => by kernel_rfl) (fun w hg => OnR_is (u) (v) hu hv true (decide_eq_true hq) w (hGl.grown hg))) ?_
    refine Obs.cons (Ob.imm (by kernel_rfl) (fun w => by kernel_rfl)) ?_
    refine Obs.cons (Ob.imm rfl (fun w => by kernel_rfl)) ?_
    exact Obs.nil
  replace hr_b0 := rangeAt_grown hr_b0 hD.gr
  replace hr_b0x := rangeAt_grown hr_b0x hD.gr
  replace hr_b0y := rangeAt_grown hr_b0y hD.gr
  replace hr_b1 := rangeAt_grown hr_b1 hD.gr
  replace hr_b1x := rangeAt_grown hr_b1x hD.gr
  replace hr_b1y := rangeAt_grown hr_b1y hD.gr
  replace ht_b2 := there_grown ht_b2 hD.gr
  replace hW := grown_trans hW hD.gr
  clear hD
  simp only [finAct, putAll, valsFrom, Plan.value, Act.put, List.setIfInBounds_toArray, List.set_cons_zero, List.set_cons_succ]
  replace hGl := hGl0.grown hW
  repeat ((fail_if_success (with_reducible show Code.wp _ (Code.region _ _ _) _ _ _)); go_step)
  replace hr_b0 := rangeAt_grown hr_b0 (gdrew w2)
  replace hr_b0x := rangeAt_grown hr_b0x (gdrew w2)
  replace hr_b0y := rangeAt_grown hr_b0y (gdrew w2)
  replace hr_b1 := rangeAt_grown hr_b1 (gdrew w2)
  replace hr_b1x := rangeAt_grown hr_b1x (gdrew w2)
  replace hr_b1y := rangeAt_grown hr_b1y (gdrew w2)
  replace ht_b2 := there_grown ht_b2 (gdrew w2)
  replace hW := grown_trans hW (gdrew w2)
  replace hGl := hGl0.grown hW
  refine wp_loose_fin [.val (pv (x) (y)), .val (cv (x) (y) (1)), .val (pv (u) (v)), .val (cv (u) (v) (1)), .val (bv (dd)), .val (rn (dd)), .any (fun z => cv ((z) % H) ((z) / H % H) ((z) / H / H)) [] (fun l z => z / H / H < H ∧ SumR (x) (y) (1) (u) (v) (1) (dd) z), .val (pv (aX x y u v) (aY x y u v)), .fin, .imm (.int .i64 (0))] (b2) 0 (fun _ => pcs (aX x y u v) (aY x y u v)) (by kernel_rfl) (by kernel_rfl) (fun β => ?_) (fun β w3 hD => ?_)
  · refine Obs.cons (Ob.load (b0) 0 (pcs (x) (y)) rfl rfl (by kernel_rfl) hr_b0 Tryd.underlying39 rfl (by rw [pcs_length]; exact infoQ)) ?_
    refine Obs.cons (Ob.call 80 #[pv (x) (y)] rfl (fun w => by kernel_rfl) (fun w hg => taken_r (x) (y) (lt_H ho.1) (lt_H ho.2.1) w)) ?_
    refine Obs.cons (Ob.load (b1) 0 (pcs (u) (v)) rfl rfl (by kernel_rfl) hr_b1 Tryd.underlying39 rfl (by rw [pcs_length]; exact infoQ)) ?_
    refine Obs.cons (Ob.call 80 #[pv (u) (v)] rfl (fun w => by kernel_rfl) (fun w hg => taken_r (u) (v) (lt_H hq.1) (lt_H hq.2.1) w)) ?_
    refine Obs.cons (Ob.load (1) 0 (bl (dd)) rfl rfl (by kernel_rfl) hGl.rd Tryd.underlying23 rfl (by rw [bl_length]; exact info32)) ?_
    refine Obs.cons (Ob.call 63 #[bv (dd)] rfl (fun w => by kernel_rfl) (fun w hg => read_d w)) ?_
    refine Obs.cons (Ob.any 79 #[cv (x) (y) (1), cv (u) (v) (1), rn (dd)] rfl (fun w => by kernel_rfl) (fun hk w hg => sum_r (x) (y) (1) (u) (v) (1) (dd) (lt_H ho.1) (lt_H ho.2.1) (by decide) (lt_H hq.1) (lt_H hq.2.1) (by decide) dd_H w)) ?_
    refine Obs.cons (Ob.call' 59 #[cv ((β 6) % H) ((β 6) / H % H) ((β 6) / H / H)] rfl (fun w => by kernel_rfl) (fun hk w hg => told_sum x y u v (β 6) (hk 6 _ _ _ rfl (bindsTo_spec (by kernel_rfl))).1 (hk 6 _ _ _ rfl (bindsTo_spec (by kernel_rfl))).2 w)) ?_
    refine Obs.cons (Ob.fin rfl (by rw [pcs_length]; exact ht_b2) rfl (by kernel_rfl) (by kernel_rfl) (by rw [pcs_length]; exact infoQ) (pcs_one _ _)) ?_
    refine Obs.cons (Ob.imm rfl (fun w => by kernel_rfl)) ?_
    exact Obs.nil
  replace hr_b0 := rangeAt_grown hr_b0 hD.gr
  replace hr_b0x := rangeAt_grown hr_b0x hD.gr
  replace hr_b0y := rangeAt_grown hr_b0y hD.gr
  replace hr_b1 := rangeAt_grown hr_b1 hD.gr
  replace hr_b1x := rangeAt_grown hr_b1x hD.gr
  replace hr_b1y := rangeAt_grown hr_b1y hD.gr
  replace ht_b2 := there_grown ht_b2 hD.gr
  have hz3_6 : (β 6) / H / H < H ∧ SumR (x) (y) (1) (u) (v) (1) (dd) (β 6) := hD.an 6 _ _ _ rfl
  replace hW := grown_trans hW hD.gr
  clear hD
  simp only [finAct, putAll, valsFrom, Plan.value, Act.put, List.setIfInBounds_toArray, List.set_cons_zero, List.set_cons_succ]
  replace hGl := hGl0.grown hW
  generalize β (0 + 1 + 1 + 1 + 1 + 1 + 1) = z3_6 at *
  have hq3_6 := Hid.of hz3_6.2
  replace hz3_6 := hz3_6.1
  have hs3 := World.rangeAt_setCells_same w3 (b2) 0 (pcs (aX x y u v) (aY x y u v)) (by rw [pcs_length]; exact ht_b2)
  replace hW := grown_setCells hf_b2 (pcs (aX x y u v) (aY x y u v)) 0 hW
  generalize w3.setCells (b2) 0 (pcs (aX x y u v) (aY x y u v)) = w3s at *
  repeat go_step
  refine bodyPost_ret (v := .tuple #[pv (aX x y u v) (aY x y u v), .int .i64 (0)]) (result_cell_tmp Tryd.results43 _ _ (b2) _ (.int .i64 (0)) ?hp ?hv hs3 Tryd.underlying39 rfl (by rw [pcs_length]; exact infoQ)) ?hd ?_
  case hp => rfl
  case hv => rfl
  case hd => rfl
  exact ⟨rfl, hW⟩

set_option maxRecDepth 100000 in
set_option maxHeartbeats 2000000 in
theorem AddR_10 (x y u v : Nat) (hx : x < M) (hy : y < M) (hu : u < M) (hv : v < M) (ho : isP x y) (hq : ¬ isP u v) (w : World) (hGl0 : GR w) :
    Calls Tryd.prog 43 #[pv x y, pv u v] w fun ex w' => ex = .returned (.tuple #[pv (0) (0), .int .i64 43]) ∧ Grown w w' := by
  have hW := Grown.refl w
  have hGl := hGl0
  go_enter Tryd.func43, Tryd.ntmps43
  repeat ((fail_if_success (with_reducible show Code.wp _ (Code.region _ _ _) _ _ _)); go_step)
  refine wp_plain [.box 39 (pcs (x) (y)), .box 39 (pcs (u) (v)), .new 39 64, .imm (.int .i64 (0))] (by kernel_rfl) (fun β => ?_) (fun β w1 hD => ?_)
  · refine Obs.cons (Ob.box rfl rfl (by kernel_rfl)) ?_
    refine Obs.cons (Ob.box rfl rfl (by kernel_rfl)) ?_
    refine Obs.cons (Ob.new _ rfl rfl zeroQ (by simp [pcs_length])) ?_
    refine Obs.cons (Ob.imm rfl (fun w => by kernel_rfl)) ?_
    exact Obs.nil
  obtain ⟨hf_b0, hr_b0⟩ := hD.bx 0 _ _ rfl
  replace hf_b0 := Nat.le_trans hW.2.2 hf_b0
  obtain ⟨hf_b1, hr_b1⟩ := hD.bx 1 _ _ rfl
  replace hf_b1 := Nat.le_trans hW.2.2 hf_b1
  obtain ⟨hf_b2, ht_b2⟩ := hD.nw 2 _ _ rfl
  replace hf_b2 := Nat.le_trans hW.2.2 hf_b2
  replace hW := grown_trans hW hD.gr
  clear hD
  simp only [finAct, putAll, valsFrom, Plan.value, Act.put, List.setIfInBounds_toArray, List.set_cons_zero, List.set_cons_succ]
  replace hGl := hGl0.grown hW
  generalize β 0 = b0 at *
  generalize β (0 + 1) = b1 at *
  generalize β (0 + 1 + 1) = b2 at *
  have hr_b0x : w1.rangeAt b0 0 (bl (x)) := rangeAt_left hr_b0
  have hr_b0y : w1.rangeAt b0 32 (bl (y)) := rangeAt_right 32 (bl_length _) hr_b0
  have hr_b1x : w1.rangeAt b1 0 (bl (u)) := rangeAt_left hr_b1
  have hr_b1y : w1.rangeAt b1 32 (bl (v)) := rangeAt_right 32 (bl_length _) hr_b1
  repeat ((fail_if_success (with_reducible show Code.wp _ (Code.region _ _ _) _ _ _)); go_step)
  refine wp_plain [.val (pv (x) (y)), .val (.bool true), .imm (.bool false), .imm (.bool false), .val (pv (u) (v)), .val (.bool false), .imm (.bool true), .imm (.bool true)] (by kernel_rfl) (fun β => ?_) (fun β w2 hD => ?_)
  · refine Obs.cons (Ob.load (b0) 0 (pcs (x) (y)) rfl rfl (by kernel_rfl) hr_b0 Tryd.underlying39 rfl (by rw [pcs_length]; exact infoQ)) ?_
    refine Obs.cons (Ob.call 38 #[pv (x) (y)] rfl (fun w => by kernel_rfl) (fun w hg => OnR_is (x) (y) hx hy true (decide_eq_true ho) w (hGl.grown hg))) ?_
    refine Obs.cons (Ob.imm rfl (fun w => by kernel_rfl)) ?_
    refine Obs.cons (Ob.imm rfl (fun w => by kernel_rfl)) ?_
    refine Obs.cons (Ob.load (b1) 0 (pcs (u) (v)) (by kernel_rfl) rfl (by kernel_rfl) hr_b1 Tryd.underlying39 rfl (by rw [pcs_length]; exact infoQ)) ?_
    refine Obs.cons (Ob.call 38 #[pv (u) (v)] (by kernel_rfl) (fun w => by kernel_rfl) (fun w hg => OnR_is (u) (v) hu hv false (decide_eq_false hq) w (hGl.grown hg))) ?_
    refine Obs.cons (Ob.imm (by kernel_rfl) (fun w => by kernel_rfl)) ?_
    refine Obs.cons (Ob.imm rfl (fun w => by kernel_rfl)) ?_
    exact Obs.nil
  replace hr_b0 := rangeAt_grown hr_b0 hD.gr
  replace hr_b0x := rangeAt_grown hr_b0x hD.gr
  replace hr_b0y := rangeAt_grown hr_b0y hD.gr
  replace hr_b1 := rangeAt_grown hr_b1 hD.gr
  replace hr_b1x := rangeAt_grown hr_b1x hD.gr
  replace hr_b1y := rangeAt_grown hr_b1y hD.gr
  replace ht_b2 := there_grown ht_b2 hD.gr
  replace hW := grown_trans hW hD.gr
  clear hD
  simp only [finAct, putAll, valsFrom, Plan.value, Act.put, List.setIfInBounds_toArray, List.set_cons_zero, List.set_cons_succ]
  replace hGl := hGl0.grown hW
  repeat ((fail_if_success (with_reducible show Code.wp _ (Code.region _ _ _) _ _ _)); go_step)
  refine wp_plain_fin [.imm (pv (0) (0)), .fin, .imm (.int .i64 (43))] (b2) 0 (fun _ => pcs (0) (0)) (by kernel_rfl) (fun β => ?_) (fun β w3 hD => ?_)
  · refine Obs.cons (Ob.imm rfl (fun w => exec_build rfl (by kernel_rfl) (build_q0 w))) ?_
    refine Obs.cons (Ob.fin rfl (by rw [pcs_length]; exact ht_b2) rfl (by kernel_rfl) (by kernel_rfl) (by rw [pcs_length]; exact infoQ) (pcs_one _ _)) ?_
    refine Obs.cons (Ob.imm rfl (fun w => by kernel_rfl)) ?_
    exact Obs.nil
  replace hr_b0 := rangeAt_grown hr_b0 hD.gr
  replace hr_b0x := rangeAt_grown hr_b0x hD.gr
  replace hr_b0y := rangeAt_grown hr_b0y hD.gr
  replace hr_b1 := rangeAt_grown hr_b1 hD.gr
  replace hr_b1x := rangeAt_grown hr_b1x hD.gr
  replace hr_b1y := rangeAt_grown hr_b1y hD.gr
  replace ht_b2 := there_grown ht_b2 hD.gr
  replace hW := grown_trans hW hD.gr
  clear hD
  simp only [finAct, putAll, valsFrom, Plan.value, Act.put, List.setIfInBounds_toArray, List.set_cons_zero, List.set_cons_succ]
  replace hGl := hGl0.grown hW
  have hs3 := World.rangeAt_setCells_same w3 (b2) 0 (pcs (0) (0)) (by rw [pcs_length]; exact ht_b2)
  replace hW := grown_setCells hf_b2 (pcs (0) (0)) 0 hW
  generalize w3.setCells (b2) 0 (pcs (0) (0)) = w3s at *
  repeat go_step
  refine bodyPost_ret (v := .tuple #[pv (0) (0), .int .i64 (43)]) (result_cell_tmp Tryd.results43 _ _ (b2) _ (.int .i64 (43)) ?hp ?hv hs3 Tryd.underlying39 rfl (by rw [pcs_length]; exact infoQ)) ?hd ?_
  case hp => rfl
  case hv => rfl
  case hd => rfl
  exact ⟨rfl, hW⟩

set_option maxRecDepth 100000 in
set_option maxHeartbeats 2000000 in
theorem AddR_0 (x y u v : Nat) (hx : x < M) (hy : y < M) (_hu : u < M) (_hv : v < M) (ho : ¬ isP x y) (w : World) (hGl0 : GR w) :
    Calls Tryd.prog 43 #[pv x y, pv u v] w fun ex w' => ex = .returned (.tuple #[pv (0) (0), .int .i64 43]) ∧ Grown w w' := by
  have hW := Grown.refl w
  have hGl := hGl0
  go_enter Tryd.func43, Tryd.ntmps43
  repeat ((fail_if_success (with_reducible show Code.wp _ (Code.region _ _ _) _ _ _)); go_step)
  refine wp_plain [.box 39 (pcs (x) (y)), .box 39 (pcs (u) (v)), .new 39 64, .imm (.int .i64 (0))] (by kernel_rfl) (fun β => ?_) (fun β w1 hD => ?_)
  · refine Obs.cons (Ob.box rfl rfl (by kernel_rfl)) ?_
    refine Obs.cons (Ob.box rfl rfl (by kernel_rfl)) ?_
    refine Obs.cons (Ob.new _ rfl rfl zeroQ (by simp [pcs_length])) ?_
    refine Obs.cons (Ob.imm rfl (fun w => by kernel_rfl)) ?_
    exact Obs.nil
  obtain ⟨hf_b0, hr_b0⟩ := hD.bx 0 _ _ rfl
  replace hf_b0 := Nat.le_trans hW.2.2 hf_b0
  obtain ⟨hf_b1, hr_b1⟩ := hD.bx 1 _ _ rfl
  replace hf_b1 := Nat.le_trans hW.2.2 hf_b1
  obtain ⟨hf_b2, ht_b2⟩ := hD.nw 2 _ _ rfl
  replace hf_b2 := Nat.le_trans hW.2.2 hf_b2
  replace hW := grown_trans hW hD.gr
  clear hD
  simp only [finAct, putAll, valsFrom, Plan.value, Act.put, List.setIfInBounds_toArray, List.set_cons_zero, List.set_cons_succ]
  replace hGl := hGl0.grown hW
  generalize β 0 = b0 at *
  generalize β (0 + 1) = b1 at *
  generalize β (0 + 1 + 1) = b2 at *
  have hr_b0x : w1.rangeAt b0 0 (bl (x)) := rangeAt_left hr_b0
  have hr_b0y : w1.rangeAt b0 32 (bl (y)) := rangeAt_right 32 (bl_length _) hr_b0
  have hr_b1x : w1.rangeAt b1 0 (bl (u)) := rangeAt_left hr_b1
  have hr_b1y : w1.rangeAt b1 32 (bl (v)) := rangeAt_right 32 (bl_length _) hr_b1
  repeat ((fail_if_success (with_reducible show Code.wp _ (Code.region _ _ _) _ _ _)); go_step)
  refine wp_plain [.val (pv (x) (y)), .val (.bool false), .imm (.bool true), .imm (.bool true), .skip, .skip, .skip, .imm (.bool true)] (by kernel_rfl) (fun β => ?_) (fun β w2 hD => ?_)
  · refine Obs.cons (Ob.load (b0) 0 (pcs (x) (y)) rfl rfl (by kernel_rfl) hr_b0 Tryd.underlying39 rfl (by rw [pcs_length]; exact infoQ)) ?_
    refine Obs.cons (Ob.call 38 #[pv (x) (y)] rfl (fun w => by kernel_rfl) (fun w hg => OnR_is (x) (y) hx hy false (decide_eq_false ho) w (hGl.grown hg))) ?_
    refine Obs.cons (Ob.imm rfl (fun w => by kernel_rfl)) ?_
    refine Obs.cons (Ob.imm rfl (fun w => by kernel_rfl)) ?_
    refine Obs.cons (Ob.skip (by kernel_rfl)) ?_
    refine Obs.cons (Ob.skip (by kernel_rfl)) ?_
    refine Obs.cons (Ob.skip (by kernel_rfl)) ?_
    refine Obs.cons (Ob.imm rfl (fun w => by kernel_rfl)) ?_
    exact Obs.nil
  replace hr_b0 := rangeAt_grown hr_b0 hD.gr
  replace hr_b0x := rangeAt_grown hr_b0x hD.gr
  replace hr_b0y := rangeAt_grown hr_b0y hD.gr
  replace hr_b1 := rangeAt_grown hr_b1 hD.gr
  replace hr_b1x := rangeAt_grown hr_b1x hD.gr
  replace hr_b1y := rangeAt_grown hr_b1y hD.gr
  replace ht_b2 := there_grown ht_b2 hD.gr
  replace hW := grown_trans hW hD.gr
  clear hD
  simp only [finAct, putAll, valsFrom, Plan.value, Act.put, List.setIfInBounds_toArray, List.set_cons_zero, List.set_cons_succ]
  replace hGl := hGl0.grown hW
  repeat ((fail_if_success (with_reducible show Code.wp _ (Code.region _ _ _) _ _ _)); go_step)
  refine wp_plain_fin [.imm (pv (0) (0)), .fin, .imm (.int .i64 (43))] (b2) 0 (fun _ => pcs (0) (0)) (by kernel_rfl) (fun β => ?_) (fun β w3 hD => ?_)
  · refine Obs.cons (Ob.imm rfl (fun w => exec_build rfl (by kernel_rfl) (build_q0 w))) ?_
    refine Obs.cons (Ob.fin rfl (by rw [pcs_length]; exact ht_b2) rfl (by kernel_rfl) (by kernel_rfl) (by rw [pcs_length]; exact infoQ) (pcs_one _ _)) ?_
    refine Obs.cons (Ob.imm rfl (fun w => by kernel_rfl)) ?_
    exact Obs.nil
  replace hr_b0 := rangeAt_grown hr_b0 hD.gr
  replace hr_b0x := rangeAt_grown hr_b0x hD.gr
  replace hr_b0y := rangeAt_grown hr_b0y hD.gr
  replace hr_b1 := rangeAt_grown hr_b1 hD.gr
  replace hr_b1x := rangeAt_grown hr_b1x hD.gr
  replace hr_b1y := rangeAt_grown hr_b1y hD.gr
  replace ht_b2 := there_grown ht_b2 hD.gr
  replace hW := grown_trans hW hD.gr
  clear hD
  simp only [finAct, putAll, valsFrom, Plan.value, Act.put, List.setIfInBounds_toArray, List.set_cons_zero, List.set_cons_succ]
  replace hGl := hGl0.grown hW
  have hs3 := World.rangeAt_setCells_same w3 (b2) 0 (pcs (0) (0)) (by rw [pcs_length]; exact ht_b2)
  replace hW := grown_setCells hf_b2 (pcs (0) (0)) 0 hW
  generalize w3.setCells (b2) 0 (pcs (0) (0)) = w3s at *
  repeat go_step
  refine bodyPost_ret (v := .tuple #[pv (0) (0), .int .i64 (43)]) (result_cell_tmp Tryd.results43 _ _ (b2) _ (.int .i64 (43)) ?hp ?hv hs3 Tryd.underlying39 rfl (by rw [pcs_length]; exact infoQ)) ?hd ?_
  case hp => rfl
  case hv => rfl
  case hd => rfl
  exact ⟨rfl, hW⟩

end Go.Proofs.YtoimglbjepppmaaDoor
