import Derived.Test.YtoimglbjepppmaaDoorZQx
import Derived.Test.YtoimglbjepppmaaDoorMi
namespace Go.Proofs.YtoimglbjepppmaaDoor
open Go.RowKit Go.Shelf FieldNum

/-- three numbers of the reference -/
def ccs (x y z : Nat) : List Value := rl (d15 x) ++ (rl (d15 y) ++ rl (d15 z))
def cv (x y z : Nat) : Value := .agg (ccs x y z).toArray
theorem ccs_length (x y z : Nat) : (ccs x y z).length = 51 := by simp [ccs, rl_length]
theorem ccs_one (x y z : Nat) : ∀ v ∈ ccs x y z, v.oneCell' = true := by
  intro v hv
  rcases List.mem_append.1 hv with h | h
  · exact rl_one _ v h
  · rcases List.mem_append.1 h with h | h
    · exact rl_one _ v h
    · exact rl_one _ v h
set_option maxRecDepth 100000 in
theorem infoC : (Tryd.prog.info? 80).map (·.size) = some 51 := by kernel_rfl
set_option maxRecDepth 100000 in
theorem zeroC : ∀ w, (zeroValue 80).run Tryd.prog w = .ok (cv 0 0 0) w := (zero_of_info (P := Tryd.prog) (t := 80) (v := cv 0 0 0) (n := 51) (by kernel_rfl)).1
set_option maxRecDepth 100000 in
theorem build_c (x y z : Nat) (w : World) : (Instr.build 80 #[(0, rn x), (1, rn y), (2, rn z)]).run Tryd.prog w = .ok (cv x y z) w := by kernel_rfl

set_option maxRecDepth 100000 in
set_option maxHeartbeats 2000000 in
theorem told_r (x y t : Nat) (hx : x < H) (hy : y < H) (ht : t < H) (w : World) : Calls Tryd.prog 59 #[cv x y t] w fun e w' => e = .returned (pv (x * inv t % p) (y * inv t % p)) ∧ Grown w w' := by
  have hW := Grown.refl w
  go_enter Tryd.func59, Tryd.ntmps59
  repeat ((fail_if_success (with_reducible show Code.wp _ (Code.region _ _ _) _ _ _)); go_step)
  refine wp_plain [.box 80 (ccs (x) (y) (t)), .new 39 64] (by kernel_rfl) (fun β => ?_) (fun β w1 hD => ?_)
  · refine Obs.cons (Ob.box rfl rfl (by kernel_rfl)) ?_
    refine Obs.cons (Ob.new _ rfl rfl zeroQ (by simp [pcs_length])) ?_
    exact Obs.nil
  obtain ⟨hf_b0, hr_b0⟩ := hD.bx 0 _ _ rfl
  replace hf_b0 := Nat.le_trans hW.2.2 hf_b0
  obtain ⟨hf_b1, ht_b1⟩ := hD.nw 1 _ _ rfl
  replace hf_b1 := Nat.le_trans hW.2.2 hf_b1
  replace hW := grown_trans hW hD.gr
  clear hD
  simp only [finAct, putAll, valsFrom, Plan.value, Act.put, List.setIfInBounds_toArray, List.set_cons_zero, List.set_cons_succ]
  generalize β 0 = b0 at *
  generalize β (0 + 1) = b1 at *
  have hr_b0x : w1.rangeAt b0 0 (rl (d15 (x))) := rangeAt_left hr_b0
  have hr_b0r := rangeAt_right 17 (rl_length _) hr_b0
  have hr_b0y : w1.rangeAt b0 17 (rl (d15 (y))) := rangeAt_left hr_b0r
  have hr_b0z : w1.rangeAt b0 34 (rl (d15 (t))) := rangeAt_right 17 (rl_length _) hr_b0r
  clear hr_b0r
  repeat ((fail_if_success (with_reducible show Code.wp _ (Code.region _ _ _) _ _ _)); go_step)
  refine wp_plain [.imm (.pointer (some ⟨b0, 34, none⟩)), .val (rn (t)), .any (fun z => rn (z)) [] (fun l z => z < H ∧ z % p = inv (t)), .new 77 17, .put 3 2 (fun z => rl (d15 (z)))] (by kernel_rfl) (fun β => ?_) (fun β w2 hD => ?_)
  · refine Obs.cons (Ob.imm rfl (fun w => by kernel_rfl)) ?_
    refine Obs.cons (Ob.load (b0) 34 (rl (d15 (t))) rfl rfl (by kernel_rfl) hr_b0z Tryd.underlying77 rfl (by rw [rl_length]; exact infoR)) ?_
    refine Obs.cons (Ob.any 72 #[rn (t)] rfl (fun w => by kernel_rfl) (fun hk w hg => inverse_r (t) ht w)) ?_
    refine Obs.cons (Ob.new _ rfl rfl zeroR (by simp [rl_length])) ?_
    refine Obs.cons (Ob.put 77 rfl rfl rfl (by kernel_rfl) (by kernel_rfl) (by rw [rl_length]; exact infoR) (rl_one _)) ?_
    exact Obs.nil
  replace hr_b0 := rangeAt_grown hr_b0 hD.gr
  replace hr_b0x := rangeAt_grown hr_b0x hD.gr
  replace hr_b0y := rangeAt_grown hr_b0y hD.gr
  replace hr_b0z := rangeAt_grown hr_b0z hD.gr
  replace ht_b1 := there_grown ht_b1 hD.gr
  obtain ⟨hf_b2, ht_b2⟩ := hD.nw 3 _ _ rfl
  have hr_b2 : w2.rangeAt (β 3) 0 (rl (d15 (β 2))) := hD.rg 4 3 2 (fun z => rl (d15 (z))) rfl
  replace hf_b2 := Nat.le_trans hW.2.2 hf_b2
  have hz2_2 : (β 2) < H ∧ (β 2) % p = inv (t) := hD.an 2 _ _ _ rfl
  replace hW := grown_trans hW hD.gr
  clear hD
  simp only [finAct, putAll, valsFrom, Plan.value, Act.put, List.setIfInBounds_toArray, List.set_cons_zero, List.set_cons_succ]
  generalize β (0 + 1 + 1 + 1) = b2 at *
  generalize β (0 + 1 + 1) = z2_2 at *
  have hq2_2 := Hid.of hz2_2.2
  replace hz2_2 := hz2_2.1
  repeat ((fail_if_success (with_reducible show Code.wp _ (Code.region _ _ _) _ _ _)); go_step)
  replace hr_b0 := rangeAt_grown hr_b0 (gdrew w2)
  replace hr_b0x := rangeAt_grown hr_b0x (gdrew w2)
  replace hr_b0y := rangeAt_grown hr_b0y (gdrew w2)
  replace hr_b0z := rangeAt_grown hr_b0z (gdrew w2)
  replace hr_b2 := rangeAt_grown hr_b2 (gdrew w2)
  replace ht_b1 := there_grown ht_b1 (gdrew w2)
  replace ht_b2 := there_grown ht_b2 (gdrew w2)
  replace hW := grown_trans hW (gdrew w2)
  refine wp_loose_fin [.imm (.pointer (some ⟨b0, 0, none⟩)), .val (rn (x)), .val (rn (z2_2)), .any (fun z => rn (z)) [] (fun l z => z < H ∧ z % p = (x) * (z2_2) % p), .val (bv ((x) * (z2_2) % p)), .imm (.pointer (some ⟨b0, 17, none⟩)), .val (rn (y)), .val (rn (z2_2)), .any (fun z => rn (z)) [] (fun l z => z < H ∧ z % p = (y) * (z2_2) % p), .val (bv ((y) * (z2_2) % p)), .imm (pv ((x) * (z2_2) % p) ((y) * (z2_2) % p)), .fin] (b1) 0 (fun _ => pcs ((x) * (z2_2) % p) ((y) * (z2_2) % p)) (by kernel_rfl) (by kernel_rfl) (fun β => ?_) (fun β w3 hD => ?_)
  · refine Obs.cons (Ob.imm rfl (fun w => by kernel_rfl)) ?_
    refine Obs.cons (Ob.load (b0) 0 (rl (d15 (x))) rfl rfl (by kernel_rfl) hr_b0x Tryd.underlying77 rfl (by rw [rl_length]; exact infoR)) ?_
    refine Obs.cons (Ob.load (b2) 0 (rl (d15 (z2_2))) rfl rfl (by kernel_rfl) hr_b2 Tryd.underlying77 rfl (by rw [rl_length]; exact infoR)) ?_
    refine Obs.cons (Ob.any 68 #[rn (x), rn (z2_2)] rfl (fun w => by kernel_rfl) (fun hk w hg => times_r (x) (z2_2) hx hz2_2 w)) ?_
    refine Obs.cons (Ob.call' 74 #[rn (β 3)] rfl (fun w => by kernel_rfl) (fun hk w hg => by have h := written_r (β 3) (hk 3 _ _ _ rfl (bindsTo_spec (by kernel_rfl))).1 w; rw [(hk 3 _ _ _ rfl (bindsTo_spec (by kernel_rfl))).2] at h; exact h)) ?_
    refine Obs.cons (Ob.imm rfl (fun w => by kernel_rfl)) ?_
    refine Obs.cons (Ob.load (b0) 17 (rl (d15 (y))) rfl rfl (by kernel_rfl) hr_b0y Tryd.underlying77 rfl (by rw [rl_length]; exact infoR)) ?_
    refine Obs.cons (Ob.load (b2) 0 (rl (d15 (z2_2))) rfl rfl (by kernel_rfl) hr_b2 Tryd.underlying77 rfl (by rw [rl_length]; exact infoR)) ?_
    refine Obs.cons (Ob.any 68 #[rn (y), rn (z2_2)] rfl (fun w => by kernel_rfl) (fun hk w hg => times_r (y) (z2_2) hy hz2_2 w)) ?_
    refine Obs.cons (Ob.call' 74 #[rn (β 8)] rfl (fun w => by kernel_rfl) (fun hk w hg => by have h := written_r (β 8) (hk 8 _ _ _ rfl (bindsTo_spec (by kernel_rfl))).1 w; rw [(hk 8 _ _ _ rfl (bindsTo_spec (by kernel_rfl))).2] at h; exact h)) ?_
    refine Obs.cons (Ob.imm rfl (fun w => exec_build rfl (by kernel_rfl) (build_q _ _ w))) ?_
    refine Obs.cons (Ob.fin rfl (by rw [pcs_length]; exact ht_b1) rfl (by kernel_rfl) (by kernel_rfl) (by rw [pcs_length]; exact infoQ) (pcs_one _ _)) ?_
    exact Obs.nil
  replace hr_b0 := rangeAt_grown hr_b0 hD.gr
  replace hr_b0x := rangeAt_grown hr_b0x hD.gr
  replace hr_b0y := rangeAt_grown hr_b0y hD.gr
  replace hr_b0z := rangeAt_grown hr_b0z hD.gr
  replace hr_b2 := rangeAt_grown hr_b2 hD.gr
  replace ht_b1 := there_grown ht_b1 hD.gr
  replace ht_b2 := there_grown ht_b2 hD.gr
  have hz3_3 : (β 3) < H ∧ (β 3) % p = (x) * (z2_2) % p := hD.an 3 _ _ _ rfl
  have hz3_8 : (β 8) < H ∧ (β 8) % p = (y) * (z2_2) % p := hD.an 8 _ _ _ rfl
  replace hW := grown_trans hW hD.gr
  clear hD
  simp only [finAct, putAll, valsFrom, Plan.value, Act.put, List.setIfInBounds_toArray, List.set_cons_zero, List.set_cons_succ]
  generalize β (0 + 1 + 1 + 1) = z3_3 at *
  generalize β (0 + 1 + 1 + 1 + 1 + 1 + 1 + 1 + 1) = z3_8 at *
  have hq3_3 := Hid.of hz3_3.2
  replace hz3_3 := hz3_3.1
  have hq3_8 := Hid.of hz3_8.2
  replace hz3_8 := hz3_8.1
  have hs3 := World.rangeAt_setCells_same w3 (b1) 0 (pcs ((x) * (z2_2) % p) ((y) * (z2_2) % p)) (by rw [pcs_length]; exact ht_b1)
  replace hW := grown_setCells hf_b1 (pcs ((x) * (z2_2) % p) ((y) * (z2_2) % p)) 0 hW
  generalize w3.setCells (b1) 0 (pcs ((x) * (z2_2) % p) ((y) * (z2_2) % p)) = w3s at *
  repeat go_step
  refine bodyPost_ret (v := pv ((x) * (z2_2) % p) ((y) * (z2_2) % p)) (result_cells Tryd.results59 _ _ (b1) _ ?hp hs3 Tryd.underlying39 rfl (by rw [pcs_length]; exact infoQ)) ?hd ?_
  case hp => rfl
  case hd => rfl
  have hi : z2_2 % p = inv t % p := hq2_2.out.trans (Nat.mod_eq_of_lt (inv_lt _)).symm
  exact ⟨by rw [mcong (a := x) rfl hi, mcong (a := y) rfl hi], hW⟩

set_option maxRecDepth 100000 in
set_option maxHeartbeats 2000000 in
theorem taken_0 (x y : Nat) (w : World) : Calls Tryd.prog 80 #[pv x y] w fun e w' => e = .returned (cv (x % H) (y % H) 1) ∧ Grown w w' := by
  have hW := Grown.refl w
  go_enter Tryd.func80, Tryd.ntmps80
  repeat ((fail_if_success (with_reducible show Code.wp _ (Code.region _ _ _) _ _ _)); go_step)
  refine wp_plain [.box 39 (pcs (x) (y)), .new 80 51] (by kernel_rfl) (fun β => ?_) (fun β w1 hD => ?_)
  · refine Obs.cons (Ob.box rfl rfl (by kernel_rfl)) ?_
    refine Obs.cons (Ob.new _ rfl rfl zeroC (by simp [ccs_length])) ?_
    exact Obs.nil
  obtain ⟨hf_b0, hr_b0⟩ := hD.bx 0 _ _ rfl
  replace hf_b0 := Nat.le_trans hW.2.2 hf_b0
  obtain ⟨hf_b1, ht_b1⟩ := hD.nw 1 _ _ rfl
  replace hf_b1 := Nat.le_trans hW.2.2 hf_b1
  replace hW := grown_trans hW hD.gr
  clear hD
  simp only [finAct, putAll, valsFrom, Plan.value, Act.put, List.setIfInBounds_toArray, List.set_cons_zero, List.set_cons_succ]
  generalize β 0 = b0 at *
  generalize β (0 + 1) = b1 at *
  have hr_b0x : w1.rangeAt b0 0 (bl (x)) := rangeAt_left hr_b0
  have hr_b0y : w1.rangeAt b0 32 (bl (y)) := rangeAt_right 32 (bl_length _) hr_b0
  repeat ((fail_if_success (with_reducible show Code.wp _ (Code.region _ _ _) _ _ _)); go_step)
  replace hr_b0 := rangeAt_grown hr_b0 (gdrew w1)
  replace hr_b0x := rangeAt_grown hr_b0x (gdrew w1)
  replace hr_b0y := rangeAt_grown hr_b0y (gdrew w1)
  replace ht_b1 := there_grown ht_b1 (gdrew w1)
  replace hW := grown_trans hW (gdrew w1)
  refine wp_loose_fin [.imm (.pointer (some ⟨b0, 0, none⟩)), .val (bv (x)), .val (rn ((x) % H)), .imm (.pointer (some ⟨b0, 32, none⟩)), .val (bv (y)), .val (rn ((y) % H)), .val (rn (1)), .imm (cv ((x) % H) ((y) % H) (1)), .fin] (b1) 0 (fun _ => ccs ((x) % H) ((y) % H) (1)) (by kernel_rfl) (by kernel_rfl) (fun β => ?_) (fun β w2 hD => ?_)
  · refine Obs.cons (Ob.imm rfl (fun w => by kernel_rfl)) ?_
    refine Obs.cons (Ob.load (b0) 0 (bl (x)) rfl rfl (by kernel_rfl) hr_b0x Tryd.underlying23 rfl (by rw [bl_length]; exact info32)) ?_
    refine Obs.cons (Ob.call 63 #[bv (x)] rfl (fun w => by kernel_rfl) (fun w hg => read_r (x) w)) ?_
    refine Obs.cons (Ob.imm rfl (fun w => by kernel_rfl)) ?_
    refine Obs.cons (Ob.load (b0) 32 (bl (y)) rfl rfl (by kernel_rfl) hr_b0y Tryd.underlying23 rfl (by rw [bl_length]; exact info32)) ?_
    refine Obs.cons (Ob.call 63 #[bv (y)] rfl (fun w => by kernel_rfl) (fun w hg => read_r (y) w)) ?_
    refine Obs.cons (Ob.call 60 #[.int .i64 (1)] rfl (fun w => by kernel_rfl) (fun w hg => small_v 1 (by decide) 1 rfl w)) ?_
    refine Obs.cons (Ob.imm rfl (fun w => exec_build rfl (by kernel_rfl) (build_c _ _ _ w))) ?_
    refine Obs.cons (Ob.fin rfl (by rw [ccs_length]; exact ht_b1) rfl (by kernel_rfl) (by kernel_rfl) (by rw [ccs_length]; exact infoC) (ccs_one _ _ _)) ?_
    exact Obs.nil
  replace hr_b0 := rangeAt_grown hr_b0 hD.gr
  replace hr_b0x := rangeAt_grown hr_b0x hD.gr
  replace hr_b0y := rangeAt_grown hr_b0y hD.gr
  replace ht_b1 := there_grown ht_b1 hD.gr
  replace hW := grown_trans hW hD.gr
  clear hD
  simp only [finAct, putAll, valsFrom, Plan.value, Act.put, List.setIfInBounds_toArray, List.set_cons_zero, List.set_cons_succ]
  have hs2 := World.rangeAt_setCells_same w2 (b1) 0 (ccs ((x) % H) ((y) % H) (1)) (by rw [ccs_length]; exact ht_b1)
  replace hW := grown_setCells hf_b1 (ccs ((x) % H) ((y) % H) (1)) 0 hW
  generalize w2.setCells (b1) 0 (ccs ((x) % H) ((y) % H) (1)) = w2s at *
  repeat go_step
  refine bodyPost_ret (v := cv ((x) % H) ((y) % H) (1)) (result_cells Tryd.results80 _ _ (b1) _ ?hp hs2 Tryd.underlying80 rfl (by rw [ccs_length]; exact infoC)) ?hd ?_
  case hp => rfl
  case hd => rfl
  exact ⟨rfl, hW⟩

theorem taken_r (x y : Nat) (hx : x < H) (hy : y < H) (w : World) : Calls Tryd.prog 80 #[pv x y] w fun e w' => e = .returned (cv x y 1) ∧ Grown w w' := by
  have := taken_0 x y w
  rwa [Nat.mod_eq_of_lt hx, Nat.mod_eq_of_lt hy] at this
theorem inv_one : inv 1 = 1 := (inv_uniq (by decide +kernel) (by decide +kernel)).symm
theorem told_id (w : World) : Calls Tryd.prog 59 #[cv 0 1 1] w fun e w' => e = .returned (pv 0 1) ∧ Grown w w' := by
  have := told_r 0 1 1 (by decide) (by decide) (by decide) w
  rw [inv_one] at this
  exact this

set_option maxRecDepth 100000 in
set_option maxHeartbeats 2000000 in
theorem IdentityR (w : World) : Calls Tryd.prog 23 #[] w fun e w' => e = .returned (pv 0 1) ∧ Grown w w' := by
  have hW := Grown.refl w
  go_enter Tryd.func23, Tryd.ntmps23
  repeat ((fail_if_success (with_reducible show Code.wp _ (Code.region _ _ _) _ _ _)); go_step)
  refine wp_plain [.new 39 64] (by kernel_rfl) (fun β => ?_) (fun β w1 hD => ?_)
  · refine Obs.cons (Ob.new _ rfl rfl zeroQ (by simp [pcs_length])) ?_
    exact Obs.nil
  obtain ⟨hf_b0, ht_b0⟩ := hD.nw 0 _ _ rfl
  replace hf_b0 := Nat.le_trans hW.2.2 hf_b0
  replace hW := grown_trans hW hD.gr
  clear hD
  simp only [finAct, putAll, valsFrom, Plan.value, Act.put, List.setIfInBounds_toArray, List.set_cons_zero]
  generalize β 0 = b0 at *
  repeat ((fail_if_success (with_reducible show Code.wp _ (Code.region _ _ _) _ _ _)); go_step)
  refine wp_plain_fin [.val (rn (0)), .val (rn (1)), .val (rn (1)), .imm (cv (0) (1) (1)), .val (pv (0) (1)), .fin] (b0) 0 (fun _ => pcs (0) (1)) (by kernel_rfl) (fun β => ?_) (fun β w2 hD => ?_)
  · refine Obs.cons (Ob.call 60 #[.int .i64 (0)] rfl (fun w => by kernel_rfl) (fun w hg => small_v 0 (by decide) 0 rfl w)) ?_
    refine Obs.cons (Ob.call 60 #[.int .i64 (1)] rfl (fun w => by kernel_rfl) (fun w hg => small_v 1 (by decide) 1 rfl w)) ?_
    refine Obs.cons (Ob.call 60 #[.int .i64 (1)] rfl (fun w => by kernel_rfl) (fun w hg => small_v 1 (by decide) 1 rfl w)) ?_
    refine Obs.cons (Ob.imm rfl (fun w => exec_build rfl (by kernel_rfl) (build_c _ _ _ w))) ?_
    refine Obs.cons (Ob.call 59 #[cv (0) (1) (1)] rfl (fun w => by kernel_rfl) (fun w hg => told_id w)) ?_
    refine Obs.cons (Ob.fin rfl (by rw [pcs_length]; exact ht_b0) rfl (by kernel_rfl) (by kernel_rfl) (by rw [pcs_length]; exact infoQ) (pcs_one _ _)) ?_
    exact Obs.nil
  replace ht_b0 := there_grown ht_b0 hD.gr
  replace hW := grown_trans hW hD.gr
  clear hD
  simp only [finAct, putAll, valsFrom, Plan.value, Act.put, List.setIfInBounds_toArray, List.set_cons_zero, List.set_cons_succ]
  have hs2 := World.rangeAt_setCells_same w2 (b0) 0 (pcs (0) (1)) (by rw [pcs_length]; exact ht_b0)
  replace hW := grown_setCells hf_b0 (pcs (0) (1)) 0 hW
  generalize w2.setCells (b0) 0 (pcs (0) (1)) = w2s at *
  repeat go_step
  refine bodyPost_ret (v := pv (0) (1)) (result_cells Tryd.results23 _ _ (b0) _ ?hp hs2 Tryd.underlying39 rfl (by rw [pcs_length]; exact infoQ)) ?hd ?_
  case hp => rfl
  case hd => rfl
  exact ⟨rfl, hW⟩

end Go.Proofs.YtoimglbjepppmaaDoor
