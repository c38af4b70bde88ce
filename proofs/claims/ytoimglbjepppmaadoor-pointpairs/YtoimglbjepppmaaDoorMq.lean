import Derived.Test.YtoimglbjepppmaaDoorMp
import Derived.Test.YtoimglbjepppmaaDoorMa
import Derived.Test.YtoimglbjepppmaaDoorMk
namespace FieldNum
theorem ee_inv : ee 20 255 255 = p - 2 := by decide +kernel
theorem ee_root : ee 1 252 252 = (p + 3) / 8 := by decide +kernel
theorem ee_im : ee 4 253 253 = (p - 1) / 4 := by decide +kernel
theorem two_im : 2 ^ ((p - 1) / 4) % p = Im := (pm_eq 2 p 256 ((p - 1) / 4) (by decide +kernel)).symm.trans (by decide +kernel)
/-- is it a square? -/
def sqr (a : Nat) : Prop := a % p = 0 ∨ hp a = 1
theorem rt8 {a r : Nat} (h : r % p = a ^ ((p + 3) / 8) % p) : r * r % p = a * fq a % p := by
  rw [mcong h h, ← Nat.pow_add]
  have e : (p + 3) / 8 + (p + 3) / 8 = (p - 1) / 4 + 1 := by decide +kernel
  rw [e, Nat.pow_succ, Nat.mul_comm]
  unfold fq
  exact mcong rfl (mm _).symm
theorem sqr_found {a r s : Nat} (h : sqr a) (hr : r * r % p = a * fq a % p) (hs : s % p = r * Im % p) : r * r % p = a % p ∨ s * s % p = a % p := by
  rcases h with h | h
  · left; rw [hr, Nat.mul_mod, h]; simp
  · have h1 : fq a * fq a % p = 1 := by rw [fq_sq, h]
    rcases sq_one (fq_lt _) h1 with e | e
    · left; rw [hr, e, Nat.mul_one]
    · right
      have h2 : 1 * (r * r) % p = ng a := by rw [Nat.one_mul, hr, e, mul_p1]
      have := root_turn (u := a) (v := 1) h2 hs
      rwa [Nat.one_mul] at this
theorem sqr_of {a z : Nat} (h : z * z % p = a % p) : sqr a := by
  by_cases ha : a % p = 0
  · exact .inl ha
  · right
    have hz : z % p ≠ 0 := by
      intro h0
      apply ha
      rw [← h, Nat.mul_mod, h0]; simp
    rw [← hp_mod, ← h, hp_mod]
    exact hp_sq1 hz
end FieldNum
namespace Go.Proofs.YtoimglbjepppmaaDoor
open Go.RowKit Go.Shelf FieldNum
theorem mod_HH (n : Nat) : n % H < H := Nat.mod_lt _ (by decide)
theorem ne_of_freshR {w : World} {b c : Nat} {f : Nat → Int} (h : w.rangeAt b 0 (rl f)) (hf : w.heap.size ≤ c) : b ≠ c := by
  have : b < w.heap.size := block_lt_of_cell (cell_r h (j := 0) (by decide))
  omega

set_option maxRecDepth 100000 in
set_option maxHeartbeats 2000000 in
theorem inverse_r (a : Nat) (ha : a < H) (w : World) : Calls Tryd.prog 72 #[rn a] w fun e w' => (∃ z, e = .returned (rn z) ∧ z < H ∧ z % p = inv a) ∧ Grown w w' := by
  have hW := Grown.refl w
  go_enter Tryd.func72, Tryd.ntmps72
  repeat ((fail_if_success (with_reducible show Code.wp _ (Code.region _ _ _) _ _ _)); go_step)
  refine wp_plain [.box 77 (rl (d15 (a))), .new 77 17] (by kernel_rfl) (fun β => ?_) (fun β w1 hD => ?_)
  · refine Obs.cons (Ob.box rfl rfl (by kernel_rfl)) ?_
    refine Obs.cons (Ob.new _ rfl rfl zeroR (by simp [rl_length])) ?_
    exact Obs.nil
  obtain ⟨hf_b0, hr_b0⟩ := hD.bx 0 _ _ rfl
  replace hf_b0 := Nat.le_trans hW.2.2 hf_b0
  obtain ⟨hf_b1, ht_b1⟩ := hD.nw 1 _ _ rfl
  replace hf_b1 := Nat.le_trans hW.2.2 hf_b1
  replace hW := grown_trans hW hD.gr
  clear hD
  simp only [finAct, putAll, valsFrom, Plan.value, Act.put, List.setIfInBounds_toArray, List.set_cons_zero, List.set_cons_succ]
  generalize β 0 = b0 at *
  generalize β (0 + 1) = b1 at *
  repeat ((fail_if_success (with_reducible show Code.wp _ (Code.region _ _ _) _ _ _)); go_step)
  refine wp_plain_fin [.val (rn (a)), .any (fun z => rn (z)) [] (fun l z => z < H ∧ z % p = (a) ^ (ee 20 255 255) % p), .fin] (b1) 0 (fun β => rl (d15 (β 1))) (by kernel_rfl) (fun β => ?_) (fun β w2 hD => ?_)
  · refine Obs.cons (Ob.load (b0) 0 (rl (d15 (a))) rfl rfl (by kernel_rfl) hr_b0 Tryd.underlying77 rfl (by rw [rl_length]; exact infoR)) ?_
    refine Obs.cons (Ob.any 95 #[rn (a), .int .i64 (255), .int .i64 (20)] rfl (fun w => by kernel_rfl) (fun hk w hg => power_r (a) 255 20 ha (by decide) (by decide) (by decide) w)) ?_
    refine Obs.cons (Ob.fin rfl (by rw [rl_length]; exact ht_b1) rfl (by kernel_rfl) (by kernel_rfl) (by rw [rl_length]; exact infoR) (rl_one _)) ?_
    exact Obs.nil
  replace hr_b0 := rangeAt_grown hr_b0 hD.gr
  replace ht_b1 := there_grown ht_b1 hD.gr
  have hz2_1 : (β 1) < H ∧ (β 1) % p = (a) ^ (ee 20 255 255) % p := hD.an 1 _ _ _ rfl
  replace hW := grown_trans hW hD.gr
  clear hD
  simp only [finAct, putAll, valsFrom, Plan.value, Act.put, List.setIfInBounds_toArray, List.set_cons_zero, List.set_cons_succ]
  generalize β (0 + 1) = z2_1 at *
  have hq2_1 := Hid.of hz2_1.2
  replace hz2_1 := hz2_1.1
  have hs2 := World.rangeAt_setCells_same w2 (b1) 0 (rl (d15 (z2_1))) (by rw [rl_length]; exact ht_b1)
  replace hW := grown_setCells hf_b1 (rl (d15 (z2_1))) 0 hW
  generalize w2.setCells (b1) 0 (rl (d15 (z2_1))) = w2s at *
  repeat go_step
  refine bodyPost_ret (v := rn (z2_1)) (result_cells Tryd.results72 _ _ (b1) (rl (d15 (z2_1))) ?hp hs2 Tryd.underlying77 rfl (by rw [rl_length]; exact infoR)) ?hd ?_
  case hp => rfl
  case hd => rfl
  refine ⟨⟨z2_1, rfl, hz2_1, ?_⟩, hW⟩
  rw [hq2_1.out, ee_inv]; rfl

set_option maxRecDepth 100000 in
set_option maxHeartbeats 2000000 in
theorem rootIm_r (w : World) : Calls Tryd.prog 96 #[] w fun e w' => (∃ z, e = .returned (rn z) ∧ z < H ∧ z % p = Im) ∧ Grown w w' := by
  have hW := Grown.refl w
  go_enter Tryd.func96, Tryd.ntmps96
  repeat ((fail_if_success (with_reducible show Code.wp _ (Code.region _ _ _) _ _ _)); go_step)
  refine wp_plain [.new 77 17] (by kernel_rfl) (fun β => ?_) (fun β w1 hD => ?_)
  · refine Obs.cons (Ob.new _ rfl rfl zeroR (by simp [rl_length])) ?_
    exact Obs.nil
  obtain ⟨hf_b0, ht_b0⟩ := hD.nw 0 _ _ rfl
  replace hf_b0 := Nat.le_trans hW.2.2 hf_b0
  replace hW := grown_trans hW hD.gr
  clear hD
  simp only [finAct, putAll, valsFrom, Plan.value, Act.put, List.setIfInBounds_toArray, List.set_cons_zero]
  generalize β 0 = b0 at *
  repeat ((fail_if_success (with_reducible show Code.wp _ (Code.region _ _ _) _ _ _)); go_step)
  refine wp_plain_fin [.val (rn (2)), .any (fun z => rn (z)) [] (fun l z => z < H ∧ z % p = (2) ^ (ee 4 253 253) % p), .fin] (b0) 0 (fun β => rl (d15 (β 1))) (by kernel_rfl) (fun β => ?_) (fun β w2 hD => ?_)
  · refine Obs.cons (Ob.call 60 #[.int .i64 (2)] rfl (fun w => by kernel_rfl) (fun w hg => small_v 2 (by decide) 2 rfl w)) ?_
    refine Obs.cons (Ob.any 95 #[rn (2), .int .i64 (253), .int .i64 (4)] rfl (fun w => by kernel_rfl) (fun hk w hg => power_r (2) 253 4 (by decide) (by decide) (by decide) (by decide) w)) ?_
    refine Obs.cons (Ob.fin rfl (by rw [rl_length]; exact ht_b0) rfl (by kernel_rfl) (by kernel_rfl) (by rw [rl_length]; exact infoR) (rl_one _)) ?_
    exact Obs.nil
  replace ht_b0 := there_grown ht_b0 hD.gr
  have hz2_1 : (β 1) < H ∧ (β 1) % p = (2) ^ (ee 4 253 253) % p := hD.an 1 _ _ _ rfl
  replace hW := grown_trans hW hD.gr
  clear hD
  simp only [finAct, putAll, valsFrom, Plan.value, Act.put, List.setIfInBounds_toArray, List.set_cons_zero, List.set_cons_succ]
  generalize β (0 + 1) = z2_1 at *
  have hq2_1 := Hid.of hz2_1.2
  replace hz2_1 := hz2_1.1
  have hs2 := World.rangeAt_setCells_same w2 (b0) 0 (rl (d15 (z2_1))) (by rw [rl_length]; exact ht_b0)
  replace hW := grown_setCells hf_b0 (rl (d15 (z2_1))) 0 hW
  generalize w2.setCells (b0) 0 (rl (d15 (z2_1))) = w2s at *
  repeat go_step
  refine bodyPost_ret (v := rn (z2_1)) (result_cells Tryd.results96 _ _ (b0) (rl (d15 (z2_1))) ?hp hs2 Tryd.underlying77 rfl (by rw [rl_length]; exact infoR)) ?hd ?_
  case hp => rfl
  case hd => rfl
  refine ⟨⟨z2_1, rfl, hz2_1, ?_⟩, hW⟩
  rw [hq2_1.out, ee_im]; exact two_im

set_option maxRecDepth 100000 in
set_option maxHeartbeats 2000000 in
theorem canonR1 (b : Nat) (hb : b < M) (h : b < p) (w : World) : Calls Tryd.prog 67 #[bv b] w fun e w' => e = .returned (.bool true) ∧ Grown w w' := by
  have hW := Grown.refl w
  go_enter Tryd.func67, Tryd.ntmps67
  repeat ((fail_if_success (with_reducible show Code.wp _ (Code.region _ _ _) _ _ _)); go_step)
  refine wp_plain [.box 23 (bl (b)), .imm (.bool false)] (by kernel_rfl) (fun β => ?_) (fun β w1 hD => ?_)
  · refine Obs.cons (Ob.box rfl rfl (by kernel_rfl)) ?_
    refine Obs.cons (Ob.imm rfl (fun w => by kernel_rfl)) ?_
    exact Obs.nil
  obtain ⟨hf_b0, hr_b0⟩ := hD.bx 0 _ _ rfl
  replace hf_b0 := Nat.le_trans hW.2.2 hf_b0
  replace hW := grown_trans hW hD.gr
  clear hD
  simp only [finAct, putAll, valsFrom, Plan.value, Act.put, List.setIfInBounds_toArray, List.set_cons_zero, List.set_cons_succ]
  generalize β 0 = b0 at *
  repeat ((fail_if_success (with_reducible show Code.wp _ (Code.region _ _ _) _ _ _)); go_step)
  replace hr_b0 := rangeAt_grown hr_b0 (gdrew w1)
  replace hW := grown_trans hW (gdrew w1)
  refine wp_loose [.val (bv (b)), .val (rn ((b) % H)), .val (bv (((b) % H) % p)), .val (bv (b)), .imm (.bool true), .imm (.bool true)] (by kernel_rfl) (by kernel_rfl) (fun β => ?_) (fun β w2 hD => ?_)
  · refine Obs.cons (Ob.load (b0) 0 (bl (b)) rfl rfl (by kernel_rfl) hr_b0 Tryd.underlying23 rfl (by rw [bl_length]; exact info32)) ?_
    refine Obs.cons (Ob.call 63 #[bv (b)] rfl (fun w => by kernel_rfl) (fun w hg => read_r (b) w)) ?_
    refine Obs.cons (Ob.call 74 #[rn ((b) % H)] rfl (fun w => by kernel_rfl) (fun w hg => written_r ((b) % H) (mod_HH _) w)) ?_
    refine Obs.cons (Ob.load (b0) 0 (bl (b)) rfl rfl (by kernel_rfl) hr_b0 Tryd.underlying23 rfl (by rw [bl_length]; exact info32)) ?_
    refine Obs.cons (Ob.imm rfl (fun w => exec_eql_same rfl (((b) % H) % p) (b) (by kernel_rfl) (by kernel_rfl) (mod_lt256 _) hb (by rw [Nat.mod_eq_of_lt (Nat.lt_trans h p_lt_H0), Nat.mod_eq_of_lt h]) w)) ?_
    refine Obs.cons (Ob.imm rfl (fun w => by kernel_rfl)) ?_
    exact Obs.nil
  replace hr_b0 := rangeAt_grown hr_b0 hD.gr
  replace hW := grown_trans hW hD.gr
  clear hD
  simp only [finAct, putAll, valsFrom, Plan.value, Act.put, List.setIfInBounds_toArray, List.set_cons_zero, List.set_cons_succ]
  repeat go_step
  go_ret
  exact ⟨rfl, hW⟩

set_option maxRecDepth 100000 in
set_option maxHeartbeats 2000000 in
theorem canonR0 (b : Nat) (hb : b < M) (h : ¬ b < p) (w : World) : Calls Tryd.prog 67 #[bv b] w fun e w' => e = .returned (.bool false) ∧ Grown w w' := by
  have hW := Grown.refl w
  go_enter Tryd.func67, Tryd.ntmps67
  repeat ((fail_if_success (with_reducible show Code.wp _ (Code.region _ _ _) _ _ _)); go_step)
  refine wp_plain [.box 23 (bl (b)), .imm (.bool false)] (by kernel_rfl) (fun β => ?_) (fun β w1 hD => ?_)
  · refine Obs.cons (Ob.box rfl rfl (by kernel_rfl)) ?_
    refine Obs.cons (Ob.imm rfl (fun w => by kernel_rfl)) ?_
    exact Obs.nil
  obtain ⟨hf_b0, hr_b0⟩ := hD.bx 0 _ _ rfl
  replace hf_b0 := Nat.le_trans hW.2.2 hf_b0
  replace hW := grown_trans hW hD.gr
  clear hD
  simp only [finAct, putAll, valsFrom, Plan.value, Act.put, List.setIfInBounds_toArray, List.set_cons_zero, List.set_cons_succ]
  generalize β 0 = b0 at *
  repeat ((fail_if_success (with_reducible show Code.wp _ (Code.region _ _ _) _ _ _)); go_step)
  replace hr_b0 := rangeAt_grown hr_b0 (gdrew w1)
  replace hW := grown_trans hW (gdrew w1)
  refine wp_loose [.val (bv (b)), .val (rn ((b) % H)), .val (bv (((b) % H) % p)), .val (bv (b)), .imm (.bool false), .imm (.bool false)] (by kernel_rfl) (by kernel_rfl) (fun β => ?_) (fun β w2 hD => ?_)
  · refine Obs.cons (Ob.load (b0) 0 (bl (b)) rfl rfl (by kernel_rfl) hr_b0 Tryd.underlying23 rfl (by rw [bl_length]; exact info32)) ?_
    refine Obs.cons (Ob.call 63 #[bv (b)] rfl (fun w => by kernel_rfl) (fun w hg => read_r (b) w)) ?_
    refine Obs.cons (Ob.call 74 #[rn ((b) % H)] rfl (fun w => by kernel_rfl) (fun w hg => written_r ((b) % H) (mod_HH _) w)) ?_
    refine Obs.cons (Ob.load (b0) 0 (bl (b)) rfl rfl (by kernel_rfl) hr_b0 Tryd.underlying23 rfl (by rw [bl_length]; exact info32)) ?_
    refine Obs.cons (Ob.imm rfl (fun w => exec_eql_apart rfl (((b) % H) % p) (b) (by kernel_rfl) (by kernel_rfl) (mod_lt256 _) hb (fun e => h (by rw [← e]; exact Nat.mod_lt _ p_pos)) w)) ?_
    refine Obs.cons (Ob.imm rfl (fun w => by kernel_rfl)) ?_
    exact Obs.nil
  replace hr_b0 := rangeAt_grown hr_b0 hD.gr
  replace hW := grown_trans hW hD.gr
  clear hD
  simp only [finAct, putAll, valsFrom, Plan.value, Act.put, List.setIfInBounds_toArray, List.set_cons_zero, List.set_cons_succ]
  repeat go_step
  go_ret
  exact ⟨rfl, hW⟩

set_option maxRecDepth 100000 in
set_option maxHeartbeats 2000000 in
theorem root_r (a : Nat) (ha : a < H) (w : World) : Calls Tryd.prog 70 #[rn a] w fun e w' => ((sqr a ∧ ∃ z, e = .returned (.tuple #[rn z, .bool true]) ∧ z < H ∧ z * z % p = a % p) ∨ (¬ sqr a ∧ ∃ z, e = .returned (.tuple #[rn z, .bool false]) ∧ z < H)) ∧ Grown w w' := by
  have hW := Grown.refl w
  go_enter Tryd.func70, Tryd.ntmps70
  repeat ((fail_if_success (with_reducible show Code.wp _ (Code.region _ _ _) _ _ _)); go_step)
  refine wp_plain [.box 77 (rl (d15 (a))), .new 77 17, .imm (.bool false)] (by kernel_rfl) (fun β => ?_) (fun β w1 hD => ?_)
  · refine Obs.cons (Ob.box rfl rfl (by kernel_rfl)) ?_
    refine Obs.cons (Ob.new _ rfl rfl zeroR (by simp [rl_length])) ?_
    refine Obs.cons (Ob.imm rfl (fun w => by kernel_rfl)) ?_
    exact Obs.nil
  obtain ⟨hf_b0, hr_b0⟩ := hD.bx 0 _ _ rfl
  replace hf_b0 := Nat.le_trans hW.2.2 hf_b0
  obtain ⟨hf_b1, ht_b1⟩ := hD.nw 1 _ _ rfl
  replace hf_b1 := Nat.le_trans hW.2.2 hf_b1
  have hn_b0_b1 := hD.ap 0 1 _ _ rfl rfl rfl rfl (by decide)
  replace hW := grown_trans hW hD.gr
  clear hD
  simp only [finAct, putAll, valsFrom, Plan.value, Act.put, List.setIfInBounds_toArray, List.set_cons_zero, List.set_cons_succ]
  generalize β 0 = b0 at *
  generalize β (0 + 1) = b1 at *
  repeat ((fail_if_success (with_reducible show Code.wp _ (Code.region _ _ _) _ _ _)); go_step)
  refine wp_plain [.val (rn (a)), .any (fun z => rn (z)) [] (fun l z => z < H ∧ z % p = (a) ^ (ee 1 252 252) % p), .new 77 17, .put 2 1 (fun z => rl (d15 (z)))] (by kernel_rfl) (fun β => ?_) (fun β w2 hD => ?_)
  · refine Obs.cons (Ob.load (b0) 0 (rl (d15 (a))) rfl rfl (by kernel_rfl) hr_b0 Tryd.underlying77 rfl (by rw [rl_length]; exact infoR)) ?_
    refine Obs.cons (Ob.any 95 #[rn (a), .int .i64 (252), .int .i64 (1)] rfl (fun w => by kernel_rfl) (fun hk w hg => power_r (a) 252 1 ha (by decide) (by decide) (by decide) w)) ?_
    refine Obs.cons (Ob.new _ rfl rfl zeroR (by simp [rl_length])) ?_
    refine Obs.cons (Ob.put 77 rfl rfl rfl (by kernel_rfl) (by kernel_rfl) (by rw [rl_length]; exact infoR) (rl_one _)) ?_
    exact Obs.nil
  have hn_b0_b2 := ne_of_freshR hr_b0 (hD.nw 2 _ _ rfl).1
  replace hr_b0 := rangeAt_grown hr_b0 hD.gr
  replace ht_b1 := there_grown ht_b1 hD.gr
  obtain ⟨hf_b2, ht_b2⟩ := hD.nw 2 _ _ rfl
  have hr_b2 : w2.rangeAt (β 2) 0 (rl (d15 (β 1))) := hD.rg 3 2 1 (fun z => rl (d15 (z))) rfl
  replace hf_b2 := Nat.le_trans hW.2.2 hf_b2
  have hz2_1 : (β 1) < H ∧ (β 1) % p = (a) ^ (ee 1 252 252) % p := hD.an 1 _ _ _ rfl
  replace hW := grown_trans hW hD.gr
  clear hD
  simp only [finAct, putAll, valsFrom, Plan.value, Act.put, List.setIfInBounds_toArray, List.set_cons_zero, List.set_cons_succ]
  generalize β (0 + 1 + 1) = b2 at *
  generalize β (0 + 1) = z2_1 at *
  have hq2_1 := Hid.of hz2_1.2
  replace hz2_1 := hz2_1.1
  repeat ((fail_if_success (with_reducible show Code.wp _ (Code.region _ _ _) _ _ _)); go_step)
  have hr8 := Hid.of (rt8 (show z2_1 % p = a ^ ((p + 3) / 8) % p by rw [hq2_1.out, ee_root]))
  clear hq2_1
  by_cases hA0 : z2_1 * z2_1 % p = a % p
  · have hA := Hid.of hA0
    clear hA0
    replace hr_b0 := rangeAt_grown hr_b0 (gdrew w2)
    replace hr_b2 := rangeAt_grown hr_b2 (gdrew w2)
    replace ht_b1 := there_grown ht_b1 (gdrew w2)
    replace ht_b2 := there_grown ht_b2 (gdrew w2)
    replace hW := grown_trans hW (gdrew w2)
    refine wp_loose [.val (rn (z2_1)), .val (rn (z2_1)), .any (fun z => rn (z)) [] (fun l z => z < H ∧ z % p = (z2_1) * (z2_1) % p), .val (rn (a)), .val (.bool true)] (by kernel_rfl) (by kernel_rfl) (fun β => ?_) (fun β w3 hD => ?_)
    · refine Obs.cons (Ob.load (b2) 0 (rl (d15 (z2_1))) rfl rfl (by kernel_rfl) hr_b2 Tryd.underlying77 rfl (by rw [rl_length]; exact infoR)) ?_
      refine Obs.cons (Ob.load (b2) 0 (rl (d15 (z2_1))) rfl rfl (by kernel_rfl) hr_b2 Tryd.underlying77 rfl (by rw [rl_length]; exact infoR)) ?_
      refine Obs.cons (Ob.any 68 #[rn (z2_1), rn (z2_1)] rfl (fun w => by kernel_rfl) (fun hk w hg => times_r (z2_1) (z2_1) hz2_1 hz2_1 w)) ?_
      refine Obs.cons (Ob.load (b0) 0 (rl (d15 (a))) rfl rfl (by kernel_rfl) hr_b0 Tryd.underlying77 rfl (by rw [rl_length]; exact infoR)) ?_
      refine Obs.cons (Ob.call' 62 #[rn (β 2), rn (a)] rfl (fun w => by kernel_rfl) (fun hk w hg => equal_is (β 2) (a) (hk 2 _ _ _ rfl (bindsTo_spec (by kernel_rfl))).1 ha true (decide_eq_true ((hk 2 _ _ _ rfl (bindsTo_spec (by kernel_rfl))).2.trans hA.out)) w)) ?_
      exact Obs.nil
    replace hr_b0 := rangeAt_grown hr_b0 hD.gr
    replace hr_b2 := rangeAt_grown hr_b2 hD.gr
    replace ht_b1 := there_grown ht_b1 hD.gr
    replace ht_b2 := there_grown ht_b2 hD.gr
    have hz3_2 : (β 2) < H ∧ (β 2) % p = (z2_1) * (z2_1) % p := hD.an 2 _ _ _ rfl
    replace hW := grown_trans hW hD.gr
    clear hD
    simp only [finAct, putAll, valsFrom, Plan.value, Act.put, List.setIfInBounds_toArray, List.set_cons_zero, List.set_cons_succ]
    generalize β (0 + 1 + 1) = z3_2 at *
    have hq3_2 := Hid.of hz3_2.2
    replace hz3_2 := hz3_2.1
    repeat ((fail_if_success (with_reducible show Code.wp _ (Code.region _ _ _) _ _ _)); go_step)
    refine wp_plain_fin [.val (rn (z2_1)), .fin, .imm (.bool true)] (b1) 0 (fun _ => rl (d15 (z2_1))) (by kernel_rfl) (fun β => ?_) (fun β w4 hD => ?_)
    · refine Obs.cons (Ob.load (b2) 0 (rl (d15 (z2_1))) rfl rfl (by kernel_rfl) hr_b2 Tryd.underlying77 rfl (by rw [rl_length]; exact infoR)) ?_
      refine Obs.cons (Ob.fin rfl (by rw [rl_length]; exact ht_b1) rfl (by kernel_rfl) (by kernel_rfl) (by rw [rl_length]; exact infoR) (rl_one _)) ?_
      refine Obs.cons (Ob.imm rfl (fun w => by kernel_rfl)) ?_
      exact Obs.nil
    replace hr_b0 := rangeAt_grown hr_b0 hD.gr
    replace hr_b2 := rangeAt_grown hr_b2 hD.gr
    replace ht_b1 := there_grown ht_b1 hD.gr
    replace ht_b2 := there_grown ht_b2 hD.gr
    replace hW := grown_trans hW hD.gr
    clear hD
    simp only [finAct, putAll, valsFrom, Plan.value, Act.put, List.setIfInBounds_toArray, List.set_cons_zero, List.set_cons_succ]
    have hs4 := World.rangeAt_setCells_same w4 (b1) 0 (rl (d15 (z2_1))) (by rw [rl_length]; exact ht_b1)
    replace hW := grown_setCells hf_b1 (rl (d15 (z2_1))) 0 hW
    generalize w4.setCells (b1) 0 (rl (d15 (z2_1))) = w4s at *
    repeat go_step
    refine bodyPost_ret (v := .tuple #[rn (z2_1), .bool true]) (result_cell_tmp Tryd.results70 _ _ (b1) (rl (d15 (z2_1))) (.bool true) ?hp ?hv hs4 Tryd.underlying77 rfl (by rw [rl_length]; exact infoR)) ?hd ?_
    case hp => rfl
    case hv => rfl
    case hd => rfl
    exact ⟨.inl ⟨sqr_of hA.out, z2_1, rfl, hz2_1, hA.out⟩, hW⟩
  · have hA := Hid.of hA0
    clear hA0
    replace hr_b0 := rangeAt_grown hr_b0 (gdrew w2)
    replace hr_b2 := rangeAt_grown hr_b2 (gdrew w2)
    replace ht_b1 := there_grown ht_b1 (gdrew w2)
    replace ht_b2 := there_grown ht_b2 (gdrew w2)
    replace hW := grown_trans hW (gdrew w2)
    refine wp_loose [.val (rn (z2_1)), .val (rn (z2_1)), .any (fun z => rn (z)) [] (fun l z => z < H ∧ z % p = (z2_1) * (z2_1) % p), .val (rn (a)), .val (.bool false)] (by kernel_rfl) (by kernel_rfl) (fun β => ?_) (fun β w3 hD => ?_)
    · refine Obs.cons (Ob.load (b2) 0 (rl (d15 (z2_1))) rfl rfl (by kernel_rfl) hr_b2 Tryd.underlying77 rfl (by rw [rl_length]; exact infoR)) ?_
      refine Obs.cons (Ob.load (b2) 0 (rl (d15 (z2_1))) rfl rfl (by kernel_rfl) hr_b2 Tryd.underlying77 rfl (by rw [rl_length]; exact infoR)) ?_
      refine Obs.cons (Ob.any 68 #[rn (z2_1), rn (z2_1)] rfl (fun w => by kernel_rfl) (fun hk w hg => times_r (z2_1) (z2_1) hz2_1 hz2_1 w)) ?_
      refine Obs.cons (Ob.load (b0) 0 (rl (d15 (a))) rfl rfl (by kernel_rfl) hr_b0 Tryd.underlying77 rfl (by rw [rl_length]; exact infoR)) ?_
      refine Obs.cons (Ob.call' 62 #[rn (β 2), rn (a)] rfl (fun w => by kernel_rfl) (fun hk w hg => equal_is (β 2) (a) (hk 2 _ _ _ rfl (bindsTo_spec (by kernel_rfl))).1 ha false (decide_eq_false (fun e => hA.out ((hk 2 _ _ _ rfl (bindsTo_spec (by kernel_rfl))).2.symm.trans e))) w)) ?_
      exact Obs.nil
    replace hr_b0 := rangeAt_grown hr_b0 hD.gr
    replace hr_b2 := rangeAt_grown hr_b2 hD.gr
    replace ht_b1 := there_grown ht_b1 hD.gr
    replace ht_b2 := there_grown ht_b2 hD.gr
    have hz3_2 : (β 2) < H ∧ (β 2) % p = (z2_1) * (z2_1) % p := hD.an 2 _ _ _ rfl
    replace hW := grown_trans hW hD.gr
    clear hD
    simp only [finAct, putAll, valsFrom, Plan.value, Act.put, List.setIfInBounds_toArray, List.set_cons_zero, List.set_cons_succ]
    generalize β (0 + 1 + 1) = z3_2 at *
    have hq3_2 := Hid.of hz3_2.2
    replace hz3_2 := hz3_2.1
    repeat ((fail_if_success (with_reducible show Code.wp _ (Code.region _ _ _) _ _ _)); go_step)
    replace hr_b0 := rangeAt_grown hr_b0 (gdrew w3)
    replace hr_b2 := rangeAt_grown hr_b2 (gdrew w3)
    replace ht_b1 := there_grown ht_b1 (gdrew w3)
    replace ht_b2 := there_grown ht_b2 (gdrew w3)
    replace hW := grown_trans hW (gdrew w3)
    refine wp_loose_fin [.val (rn (z2_1)), .any (fun z => rn (z)) [] (fun l z => z < H ∧ z % p = Im), .any (fun z => rn (z)) [1] (fun l z => z < H ∧ z % p = (z2_1) * (l.getD 0 0) % p), .fin] (b2) 0 (fun β => rl (d15 (β 2))) (by kernel_rfl) (by kernel_rfl) (fun β => ?_) (fun β w4 hD => ?_)
    · refine Obs.cons (Ob.load (b2) 0 (rl (d15 (z2_1))) rfl rfl (by kernel_rfl) hr_b2 Tryd.underlying77 rfl (by rw [rl_length]; exact infoR)) ?_
      refine Obs.cons (Ob.any 96 #[] rfl (fun w => by kernel_rfl) (fun hk w hg => rootIm_r w)) ?_
      refine Obs.cons (Ob.any 68 #[rn (z2_1), rn (β 1)] rfl (fun w => by kernel_rfl) (fun hk w hg => times_r (z2_1) (β 1) hz2_1 (hk 1 _ _ _ rfl (bindsTo_spec (by kernel_rfl))).1 w)) ?_
      refine Obs.cons (Ob.fin rfl (by rw [rl_length]; exact ht_b2) rfl (by kernel_rfl) (by kernel_rfl) (by rw [rl_length]; exact infoR) (rl_one _)) ?_
      exact Obs.nil
    replace hr_b0 := rangeAt_grown hr_b0 hD.gr
    replace hr_b2 := rangeAt_grown hr_b2 hD.gr
    replace ht_b1 := there_grown ht_b1 hD.gr
    replace ht_b2 := there_grown ht_b2 hD.gr
    have hz4_1 : (β 1) < H ∧ (β 1) % p = Im := hD.an 1 _ _ _ rfl
    have hz4_2 : (β 2) < H ∧ (β 2) % p = (z2_1) * (β 1) % p := hD.an 2 _ _ _ rfl
    replace hW := grown_trans hW hD.gr
    clear hD
    simp only [finAct, putAll, valsFrom, Plan.value, Act.put, List.setIfInBounds_toArray, List.set_cons_zero, List.set_cons_succ]
    generalize β (0 + 1) = z4_1 at *
    generalize β (0 + 1 + 1) = z4_2 at *
    have hq4_1 := Hid.of hz4_1.2
    replace hz4_1 := hz4_1.1
    have hq4_2 := Hid.of hz4_2.2
    replace hz4_2 := hz4_2.1
    have hs4 := World.rangeAt_setCells_same w4 (b2) 0 (rl (d15 (z4_2))) (by rw [rl_length]; exact ht_b2)
    replace hW := grown_setCells hf_b2 (rl (d15 (z4_2))) 0 hW
    replace hr_b0 := World.rangeAt_setCells_apart hr_b0 (b2) 0 (rl (d15 (z4_2))) (.inl (hn_b0_b2))
    replace ht_b1 := World.there_setCells ht_b1 (b2) 0 (rl (d15 (z4_2)))
    replace ht_b2 := World.there_setCells ht_b2 (b2) 0 (rl (d15 (z4_2)))
    generalize w4.setCells (b2) 0 (rl (d15 (z4_2))) = w4s at *
    repeat ((fail_if_success (with_reducible show Code.wp _ (Code.region _ _ _) _ _ _)); go_step)
    have hs := Hid.of (show z4_2 % p = z2_1 * Im % p by rw [hq4_2.out]; exact mcong rfl (by rw [hq4_1.out, Nat.mod_eq_of_lt (by decide +kernel : Im < p)]))
    clear hq4_1 hq4_2
    by_cases hB0 : z4_2 * z4_2 % p = a % p
    · have hB := Hid.of hB0
      clear hB0
      replace hr_b0 := rangeAt_grown hr_b0 (gdrew w4s)
      replace hs4 := rangeAt_grown hs4 (gdrew w4s)
      replace ht_b1 := there_grown ht_b1 (gdrew w4s)
      replace ht_b2 := there_grown ht_b2 (gdrew w4s)
      replace hW := grown_trans hW (gdrew w4s)
      refine wp_loose_fin [.val (rn (z4_2)), .val (rn (z4_2)), .val (rn (z4_2)), .any (fun z => rn (z)) [] (fun l z => z < H ∧ z % p = (z4_2) * (z4_2) % p), .val (rn (a)), .val (.bool true), .fin, .imm (.bool true)] (b1) 0 (fun _ => rl (d15 (z4_2))) (by kernel_rfl) (by kernel_rfl) (fun β => ?_) (fun β w5 hD => ?_)
      · refine Obs.cons (Ob.load (b2) 0 (rl (d15 (z4_2))) rfl rfl (by kernel_rfl) hs4 Tryd.underlying77 rfl (by rw [rl_length]; exact infoR)) ?_
        refine Obs.cons (Ob.load (b2) 0 (rl (d15 (z4_2))) rfl rfl (by kernel_rfl) hs4 Tryd.underlying77 rfl (by rw [rl_length]; exact infoR)) ?_
        refine Obs.cons (Ob.load (b2) 0 (rl (d15 (z4_2))) rfl rfl (by kernel_rfl) hs4 Tryd.underlying77 rfl (by rw [rl_length]; exact infoR)) ?_
        refine Obs.cons (Ob.any 68 #[rn (z4_2), rn (z4_2)] rfl (fun w => by kernel_rfl) (fun hk w hg => times_r (z4_2) (z4_2) hz4_2 hz4_2 w)) ?_
        refine Obs.cons (Ob.load (b0) 0 (rl (d15 (a))) rfl rfl (by kernel_rfl) hr_b0 Tryd.underlying77 rfl (by rw [rl_length]; exact infoR)) ?_
        refine Obs.cons (Ob.call' 62 #[rn (β 3), rn (a)] rfl (fun w => by kernel_rfl) (fun hk w hg => equal_is (β 3) (a) (hk 3 _ _ _ rfl (bindsTo_spec (by kernel_rfl))).1 ha true (decide_eq_true ((hk 3 _ _ _ rfl (bindsTo_spec (by kernel_rfl))).2.trans hB.out)) w)) ?_
        refine Obs.cons (Ob.fin rfl (by rw [rl_length]; exact ht_b1) rfl (by kernel_rfl) (by kernel_rfl) (by rw [rl_length]; exact infoR) (rl_one _)) ?_
        refine Obs.cons (Ob.imm rfl (fun w => by kernel_rfl)) ?_
        exact Obs.nil
      replace hr_b0 := rangeAt_grown hr_b0 hD.gr
      replace hs4 := rangeAt_grown hs4 hD.gr
      replace ht_b1 := there_grown ht_b1 hD.gr
      replace ht_b2 := there_grown ht_b2 hD.gr
      have hz5_3 : (β 3) < H ∧ (β 3) % p = (z4_2) * (z4_2) % p := hD.an 3 _ _ _ rfl
      replace hW := grown_trans hW hD.gr
      clear hD
      simp only [finAct, putAll, valsFrom, Plan.value, Act.put, List.setIfInBounds_toArray, List.set_cons_zero, List.set_cons_succ]
      generalize β (0 + 1 + 1 + 1) = z5_3 at *
      have hq5_3 := Hid.of hz5_3.2
      replace hz5_3 := hz5_3.1
      have hs5 := World.rangeAt_setCells_same w5 (b1) 0 (rl (d15 (z4_2))) (by rw [rl_length]; exact ht_b1)
      replace hW := grown_setCells hf_b1 (rl (d15 (z4_2))) 0 hW
      generalize w5.setCells (b1) 0 (rl (d15 (z4_2))) = w5s at *
      repeat go_step
      refine bodyPost_ret (v := .tuple #[rn (z4_2), .bool true]) (result_cell_tmp Tryd.results70 _ _ (b1) (rl (d15 (z4_2))) (.bool true) ?hp ?hv hs5 Tryd.underlying77 rfl (by rw [rl_length]; exact infoR)) ?hd ?_
      case hp => rfl
      case hv => rfl
      case hd => rfl
      exact ⟨.inl ⟨sqr_of hB.out, z4_2, rfl, hz4_2, hB.out⟩, hW⟩
    · have hB := Hid.of hB0
      clear hB0
      replace hr_b0 := rangeAt_grown hr_b0 (gdrew w4s)
      replace hs4 := rangeAt_grown hs4 (gdrew w4s)
      replace ht_b1 := there_grown ht_b1 (gdrew w4s)
      replace ht_b2 := there_grown ht_b2 (gdrew w4s)
      replace hW := grown_trans hW (gdrew w4s)
      refine wp_loose_fin [.val (rn (z4_2)), .val (rn (z4_2)), .val (rn (z4_2)), .any (fun z => rn (z)) [] (fun l z => z < H ∧ z % p = (z4_2) * (z4_2) % p), .val (rn (a)), .val (.bool false), .fin, .imm (.bool false)] (b1) 0 (fun _ => rl (d15 (z4_2))) (by kernel_rfl) (by kernel_rfl) (fun β => ?_) (fun β w5 hD => ?_)
      · refine Obs.cons (Ob.load (b2) 0 (rl (d15 (z4_2))) rfl rfl (by kernel_rfl) hs4 Tryd.underlying77 rfl (by rw [rl_length]; exact infoR)) ?_
        refine Obs.cons (Ob.load (b2) 0 (rl (d15 (z4_2))) rfl rfl (by kernel_rfl) hs4 Tryd.underlying77 rfl (by rw [rl_length]; exact infoR)) ?_
        refine Obs.cons (Ob.load (b2) 0 (rl (d15 (z4_2))) rfl rfl (by kernel_rfl) hs4 Tryd.underlying77 rfl (by rw [rl_length]; exact infoR)) ?_
        refine Obs.cons (Ob.any 68 #[rn (z4_2), rn (z4_2)] rfl (fun w => by kernel_rfl) (fun hk w hg => times_r (z4_2) (z4_2) hz4_2 hz4_2 w)) ?_
        refine Obs.cons (Ob.load (b0) 0 (rl (d15 (a))) rfl rfl (by kernel_rfl) hr_b0 Tryd.underlying77 rfl (by rw [rl_length]; exact infoR)) ?_
        refine Obs.cons (Ob.call' 62 #[rn (β 3), rn (a)] rfl (fun w => by kernel_rfl) (fun hk w hg => equal_is (β 3) (a) (hk 3 _ _ _ rfl (bindsTo_spec (by kernel_rfl))).1 ha false (decide_eq_false (fun e => hB.out ((hk 3 _ _ _ rfl (bindsTo_spec (by kernel_rfl))).2.symm.trans e))) w)) ?_
        refine Obs.cons (Ob.fin rfl (by rw [rl_length]; exact ht_b1) rfl (by kernel_rfl) (by kernel_rfl) (by rw [rl_length]; exact infoR) (rl_one _)) ?_
        refine Obs.cons (Ob.imm rfl (fun w => by kernel_rfl)) ?_
        exact Obs.nil
      replace hr_b0 := rangeAt_grown hr_b0 hD.gr
      replace hs4 := rangeAt_grown hs4 hD.gr
      replace ht_b1 := there_grown ht_b1 hD.gr
      replace ht_b2 := there_grown ht_b2 hD.gr
      have hz5_3 : (β 3) < H ∧ (β 3) % p = (z4_2) * (z4_2) % p := hD.an 3 _ _ _ rfl
      replace hW := grown_trans hW hD.gr
      clear hD
      simp only [finAct, putAll, valsFrom, Plan.value, Act.put, List.setIfInBounds_toArray, List.set_cons_zero, List.set_cons_succ]
      generalize β (0 + 1 + 1 + 1) = z5_3 at *
      have hq5_3 := Hid.of hz5_3.2
      replace hz5_3 := hz5_3.1
      have hs5 := World.rangeAt_setCells_same w5 (b1) 0 (rl (d15 (z4_2))) (by rw [rl_length]; exact ht_b1)
      replace hW := grown_setCells hf_b1 (rl (d15 (z4_2))) 0 hW
      generalize w5.setCells (b1) 0 (rl (d15 (z4_2))) = w5s at *
      repeat go_step
      refine bodyPost_ret (v := .tuple #[rn (z4_2), .bool false]) (result_cell_tmp Tryd.results70 _ _ (b1) (rl (d15 (z4_2))) (.bool false) ?hp ?hv hs5 Tryd.underlying77 rfl (by rw [rl_length]; exact infoR)) ?hd ?_
      case hp => rfl
      case hv => rfl
      case hd => rfl
      exact ⟨.inr ⟨fun hq => (sqr_found hq hr8.out hs.out).elim hA.out hB.out, z4_2, rfl, hz4_2⟩, hW⟩

theorem root_yes (a : Nat) (ha : a < H) (h : sqr a) (w : World) : Calls Tryd.prog 70 #[rn a] w fun e w' => (∃ z, e = .returned (.tuple #[rn z, .bool true]) ∧ z < H ∧ z * z % p = a % p) ∧ Grown w w' :=
  (root_r a ha w).mono fun _ _ ⟨x, y⟩ => ⟨x.elim (fun q => q.2) (fun q => absurd h q.1), y⟩
theorem root_no (a : Nat) (ha : a < H) (h : ¬ sqr a) (w : World) : Calls Tryd.prog 70 #[rn a] w fun e w' => (∃ z, e = .returned (.tuple #[rn z, .bool false]) ∧ z < H) ∧ Grown w w' :=
  (root_r a ha w).mono fun _ _ ⟨x, y⟩ => ⟨x.elim (fun q => absurd q.1 h) (fun q => q.2), y⟩
end Go.Proofs.YtoimglbjepppmaaDoor

namespace FieldNum
theorem two_roots {u v x : Nat} (hv : v % p ≠ 0) (h : v * (x * x) % p = u % p) (hx : x < p) : x = rt u v ∨ x = ng (rt u v) := by
  have h0 : u % p = 0 → x % p = 0 := by
    intro hu
    apply Classical.byContradiction
    intro hn
    rw [hu] at h
    exact mul_ne hv (mul_ne hn hn) h
  by_cases ho : x % p % 2 = 1
  · right
    have := rt_eq (root_odd h h0 ho)
    rw [this, ng_ng, Nat.mod_eq_of_lt hx]
  · left
    have := rt_eq (root_even h h0 ho)
    rw [this, Nat.mod_eq_of_lt hx]
theorem sqr_rok {u v A : Nat} (hv : v % p ≠ 0) (hA : A % p = u * inv v % p) : sqr A ↔ rok u v := by
  have hi := inv_ne hv
  have e : hp A = hp (u * v) := by
    have e1 : u * inv v % p = (u * v) * (inv v * inv v) % p := by
      have e2 : (u * v) * (inv v * inv v) = u * inv v * (v * inv v) := by grind
      have h1 : v * inv v % p = 1 % p := (mul_inv hv).trans (by decide +kernel)
      rw [e2, mcong rfl h1, Nat.mul_one]
    rw [← hp_mod, hA, e1, hp_mod, hp_mul', hp_sq1 hi, Nat.mul_one, Nat.mod_eq_of_lt (hp_lt' _)]
  have e0 : A % p = 0 ↔ u % p = 0 := by
    rw [hA]
    constructor
    · intro h
      apply Classical.byContradiction
      intro hn
      exact mul_ne hn hi h
    · intro h; rw [Nat.mul_mod, h]; simp
  unfold sqr rok
  rw [e, e0]
theorem root_of_sq {u v A x : Nat} (hv : v % p ≠ 0) (hA : A % p = u * inv v % p) (hx : x * x % p = A % p) : v * ((x % p) * (x % p)) % p = u % p := by
  rw [mcong rfl ((mcong (mm x) (mm x)).trans (hx.trans hA))]
  have e : v * (u * inv v) = u * (v * inv v) := by grind
  have h1 : v * inv v % p = 1 % p := (mul_inv hv).trans (by decide +kernel)
  rw [e, mcong rfl h1, Nat.mul_one]
/-- the argument of the root -/
theorem arg_root {y Y D P S I A : Nat} (h1 : Y % p = y * y % p) (h2 : D % p = dd * Y % p) (h3 : P % p = (D + 1) % p) (h4 : S % p = sb Y 1) (h5 : I % p = inv P) (h6 : A % p = S * I % p) : A % p = uu y * inv (vv y) % p := by
  have hY : sb Y 1 = uu y := by unfold uu; rw [← sb_mod, h1]
  have hP : inv P = inv (vv y) := by
    have hv : (D + 1) % p = vv y % p := by
      unfold vv
      rw [mm]
      exact acong (h2.trans ((mcong rfl (h1.trans (mm _).symm)).trans (mm _).symm)) rfl
    rw [← inv_mod P, h3, hv, inv_mod]
  rw [h6]
  refine mcong ?_ ?_
  · rw [h4, hY]; exact (Nat.mod_eq_of_lt (show uu y < p from sb_lt _ _)).symm
  · rw [h5, hP]; exact (Nat.mod_eq_of_lt (inv_lt _)).symm
end FieldNum
namespace Go.Proofs.YtoimglbjepppmaaDoor
open Go.RowKit Go.Shelf FieldNum
set_option maxRecDepth 100000 in
theorem infoQ : (Tryd.prog.info? 39).map (·.size) = some 64 := by kernel_rfl
set_option maxRecDepth 100000 in
theorem zeroQ : ∀ w, (zeroValue 39).run Tryd.prog w = .ok (pv 0 0) w := (zero_of_info (P := Tryd.prog) (t := 39) (v := pv 0 0) (n := 64) (by kernel_rfl)).1
set_option maxRecDepth 100000 in
theorem build_q (x y : Nat) (w : World) : (Instr.build 39 #[(0, bv x), (1, bv y)]).run Tryd.prog w = .ok (pv x y) w := by kernel_rfl
set_option maxRecDepth 100000 in
theorem build_q0 (w : World) : (Instr.build 39 #[]).run Tryd.prog w = .ok (pv 0 0) w := by kernel_rfl
theorem there_boxB {w w' : World} {b n : Nat} (hr : w'.rangeAt b 0 (bl n)) (hf : w.heap.size ≤ b) (hg : Grown w w') : w'.there b 0 32 := fun j hj =>
  ⟨by rw [Nat.zero_add, cell_b hr hj]; rfl, (hg.2.1 _).trans (frozen_past hf)⟩
theorem there_boxR {w w' : World} {b : Nat} {f : Nat → Int} (hr : w'.rangeAt b 0 (rl f)) (hf : w.heap.size ≤ b) (hg : Grown w w') : w'.there b 0 17 := fun j hj =>
  ⟨by rw [Nat.zero_add, cell_r hr hj]; rfl, (hg.2.1 _).trans (frozen_past hf)⟩
theorem bit255_0 {b : Nat} (hs : b < H) : b / 2 ^ 255 % 2 = 0 := by rw [← H_pow, Nat.div_eq_of_lt hs]
theorem bit255_1 {b : Nat} (hb : b < M) (hs : ¬ b < H) : b / 2 ^ 255 % 2 = 1 := by
  have h2 : H + H = M := by decide +kernel
  rw [← H_pow]
  have h3 : b / H = 1 := by apply Nat.div_eq_of_lt_le <;> omega
  rw [h3]
theorem Bit_0 (b : Nat) (hs : b < H) (w : World) : Calls Tryd.prog 66 #[bv b, .int .i64 255] w fun e w' => e = .returned (.int .i64 0) ∧ Grown w w' := by
  have := Bit_num b 255 (by decide) w
  rw [bit255_0 hs] at this
  exact this
theorem Bit_1 (b : Nat) (hb : b < M) (hs : ¬ b < H) (w : World) : Calls Tryd.prog 66 #[bv b, .int .i64 255] w fun e w' => e = .returned (.int .i64 1) ∧ Grown w w' := by
  have := Bit_num b 255 (by decide) w
  rw [bit255_1 hb hs] at this
  exact this
theorem read_y (b : Nat) (w : World) : Calls Tryd.prog 63 #[bv (b % H)] w fun e w' => e = .returned (rn (b % H)) ∧ Grown w w' := by
  have := read_r (b % H) w
  rwa [Nat.mod_mod] at this
theorem dd_H : dd < H := by decide +kernel
theorem read_d (w : World) : Calls Tryd.prog 63 #[bv dd] w fun e w' => e = .returned (rn dd) ∧ Grown w w' := by
  have := read_r dd w
  rwa [Nat.mod_eq_of_lt dd_H] at this
theorem par_r {x : Nat} : (d15 x 0).tmod 2 = ((x % 2 : Nat) : Int) := by
  rw [d15_0, Int.tmod_eq_emod_of_nonneg (by omega)]
  omega
theorem exec_par {o : Oper} {ρ : Operand → Value} {x y : Operand} {t : TypeId} {w : World} (n r : Nat) (ho : o.op = .binOp .rem 3 x y t) (hx : ρ x = .int .i64 (d15 n 0)) (hy : ρ y = .int .i64 2) (hr : n % 2 = r) : (execOp ρ o).run Tryd.prog w = .ok (.value (.int .i64 (r : Int))) w := by
  have e := par_r (x := n)
  rw [hr] at e
  unfold execOp
  simp only [ho, hx, hy]
  simp [go_sem, e]
end Go.Proofs.YtoimglbjepppmaaDoor

