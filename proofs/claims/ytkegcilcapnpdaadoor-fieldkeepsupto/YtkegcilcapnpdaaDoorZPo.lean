import Derived.Test.YtkegcilcapnpdaaDoorNg
namespace FieldNum
def P1 : Nat := 57896044618658097711785492504343953926634992332820282019728792003956564819950
theorem P1_bytes : ∀ j : Fin 32, by8 P1 j.val = if j.val = 0 then 238 else by8 p j.val := by decide +kernel
theorem P1_two : 2 * P1 % p = 2 := by decide +kernel
theorem P1_sq : P1 * P1 % p = 1 := by decide +kernel
theorem p_low : by8 p 0 = 237 := by decide +kernel
end FieldNum
namespace Go.Proofs.YtkegcilcapnpdaaDoor
open Go.RowKit Go.Shelf FieldNum

theorem P1_S {q : Nat} (hq : Hid (q = P1)) : q < S256 := by rw [hq.out]; decide +kernel
theorem q_two {q : Nat} (hq : Hid (q = P1)) : fmul (2) (q) = 2 := by rw [hq.out]; exact P1_two
theorem q_sq {q : Nat} (hq : Hid (q = P1)) : fmul (q) (q) = 1 := by rw [hq.out]; exact P1_sq
theorem q_get {q q0 : Nat} (hq : Hid (q = P1)) (h0 : Hid (q0 = p)) (j : Nat) (hj : j < 32) : by8 q j = if j = 0 then 238 else by8 q0 j := by
  rw [hq.out, h0.out]; exact P1_bytes ⟨j, hj⟩
theorem q_low {q0 : Nat} (h0 : Hid (q0 = p)) {w : World} {b : Nat} (h : w.rangeAt b 0 (bl q0)) : w.cell? ⟨b, 0, none⟩ = some (.int .u8 237) := by
  rw [cell_b h (by decide)]
  show some (Value.int .u8 (by8 q0 0)) = _
  rw [h0.out, p_low]
/-- the lowest byte is one more -/
theorem q_put {q q0 : Nat} (hq : Hid (q = P1)) (h0 : Hid (q0 = p)) {w : World} {b : Nat} (h : w.rangeAt b 0 (bl q0)) : (w.setCells b 0 [.int .u8 238]).rangeAt b 0 (bl q) := by
  intro j v hv
  have hj : j < 32 := by have := lt_of_get hv; rwa [bl_length] at this
  rw [bl_get q j hj] at hv
  injection hv with hv
  subst hv
  show (w.setCell ⟨b, 0, none⟩ (.int .u8 238)).cell? ⟨b, 0 + j, none⟩ = some (.int .u8 (by8 q j))
  rw [Nat.zero_add, q_get hq h0 j hj]
  by_cases e : j = 0
  · subst e
    rw [if_pos rfl]
    exact cell_set (cell_b h (by decide))
  · rw [if_neg e, set_other _ _ _ _ _ e]
    exact cell_b h hj
theorem P_q {q0 : Nat} (h0 : Hid (q0 = p)) (w : World) (hG : Gp w) : Calls Tryd.prog 40 #[] w fun e w' => e = .returned (sn q0) ∧ Grown w w' := by
  rw [h0.out]; exact P_r p w hG
theorem q0_S {q0 : Nat} (h0 : Hid (q0 = p)) : q0 < S256 := by rw [h0.out]; exact p_S
theorem exec_idxSO {o : Oper} {ρ : Operand → Value} {x y : Operand} {w : World} {b off n c : Nat} (i : Nat) (hi : i < n) (ho : o.op = .indexAddr 42 x y) (hx : ρ x = .slice (some ⟨b, off, none⟩) n c) (hy : ρ y = .int .i64 (i : Int)) : (execOp ρ o).run Tryd.prog w = .ok (.value (.pointer (some ⟨b, off + 66 * i, none⟩))) w := by
  unfold execOp
  simp only [ho, hx, hy]
  go_simp
/-- a script that lies in cells -/
structure Op1 (w : World) (b off : Nat) : Prop where
  ex : ∃ (k : Int) (x y n c : Nat) (a : Option Addr) (F : Nat → Nat), x < S256 ∧ y < S256 ∧ (∀ i, i < n → F i < S256) ∧ Ls w (.slice a n c) n F ∧ w.rangeAt b off (opc k x y (.slice a n c))

theorem there_first {w : World} {b : Nat} (h : w.there b 0 32) : w.there b 0 1 := fun j hj => h j (by omega)
set_option maxRecDepth 100000 in
set_option maxHeartbeats 8000000 in
theorem all_r (a0 : Option Addr) (n0 c0 q q0 : Nat) (hq : Hid (q = P1)) (h0 : Hid (q0 = p)) (w : World) (hn0 : (n0 : Int) ≤ 9223372036854775807) (hsc : 0 < n0 → ∃ b off, a0 = some ⟨b, off, none⟩ ∧ ∀ i, i < n0 → Op1 w b (off + 66 * i)) (hGl0 : Gr w) : Calls Tryd.prog 9 #[.slice a0 n0 c0] w fun e w' => e = .returned (.bool true) ∧ Grown w w' := by
  have hW := Grown.refl w
  have hGl := hGl0
  go_enter Tryd.func9, Tryd.ntmps9
  repeat ((fail_if_success (with_reducible show Code.wp _ (Code.region _ _ _) _ _ _)); go_step)
  refine wp_plain [.imm (.bool false)] (by kernel_rfl) (fun β => ?_) (fun β w1 hD => ?_)
  · refine Obs.cons (Ob.imm rfl (fun w => by kernel_rfl)) ?_
    exact Obs.nil
  replace hW := grown_trans hW hD.gr
  clear hD
  simp only [finAct, putAll, valsFrom, Plan.value, Act.put, List.setIfInBounds_toArray, List.set_cons_zero, List.set_cons_succ]
  replace hGl := hGl0.grown hW
  repeat ((fail_if_success (with_reducible show Code.wp _ (Code.region _ _ _) _ _ _)); go_step)
  refine wp_plain [.val (sn (1)), .val (bv (1)), .new 23 32, .put 2 2 (fun _ => bl (1))] (by kernel_rfl) (fun β => ?_) (fun β w2 hD => ?_)
  · refine Obs.cons (Ob.call 39 #[.int .i64 (1)] rfl (fun w => by kernel_rfl) (fun w hg => Small_r 1 (by decide) 1 rfl w)) ?_
    refine Obs.cons (Ob.call 38 #[sn (1)] rfl (fun w => by kernel_rfl) (fun w hg => Bytes_r (1) w)) ?_
    refine Obs.cons (Ob.new _ rfl rfl zero32.1 (by simp [bl_length])) ?_
    refine Obs.cons (Ob.put 23 rfl rfl rfl (by kernel_rfl) (by kernel_rfl) (by rw [bl_length]; exact info32) (bl_one _)) ?_
    exact Obs.nil
  obtain ⟨hf_b0, ht_b0⟩ := hD.nw 2 _ _ rfl
  have hr_b0 : w2.rangeAt (β 2) 0 (bl (1)) := hD.rg 3 2 2 (fun _ => bl (1)) rfl
  replace hf_b0 := Nat.le_trans hW.2.2 hf_b0
  replace hW := grown_trans hW hD.gr
  clear hD
  simp only [finAct, putAll, valsFrom, Plan.value, Act.put, List.setIfInBounds_toArray, List.set_cons_zero, List.set_cons_succ]
  replace hGl := hGl0.grown hW
  generalize β (0 + 1 + 1) = b0 at *
  repeat ((fail_if_success (with_reducible show Code.wp _ (Code.region _ _ _) _ _ _)); go_step)
  refine wp_plain [.val (sn (2)), .val (bv (2)), .new 23 32, .put 2 2 (fun _ => bl (2))] (by kernel_rfl) (fun β => ?_) (fun β w3 hD => ?_)
  · refine Obs.cons (Ob.call 39 #[.int .i64 (2)] rfl (fun w => by kernel_rfl) (fun w hg => Small_r 2 (by decide) 2 rfl w)) ?_
    refine Obs.cons (Ob.call 38 #[sn (2)] rfl (fun w => by kernel_rfl) (fun w hg => Bytes_r (2) w)) ?_
    refine Obs.cons (Ob.new _ rfl rfl zero32.1 (by simp [bl_length])) ?_
    refine Obs.cons (Ob.put 23 rfl rfl rfl (by kernel_rfl) (by kernel_rfl) (by rw [bl_length]; exact info32) (bl_one _)) ?_
    exact Obs.nil
  have hn_b0_b1 := ne_of_fresh hr_b0 (hD.nw 2 _ _ rfl).1
  replace hr_b0 := rangeAt_grown hr_b0 hD.gr
  replace ht_b0 := there_grown ht_b0 hD.gr
  obtain ⟨hf_b1, ht_b1⟩ := hD.nw 2 _ _ rfl
  have hr_b1 : w3.rangeAt (β 2) 0 (bl (2)) := hD.rg 3 2 2 (fun _ => bl (2)) rfl
  replace hf_b1 := Nat.le_trans hW.2.2 hf_b1
  replace hW := grown_trans hW hD.gr
  clear hD
  simp only [finAct, putAll, valsFrom, Plan.value, Act.put, List.setIfInBounds_toArray, List.set_cons_zero, List.set_cons_succ]
  replace hGl := hGl0.grown hW
  generalize β (0 + 1 + 1) = b1 at *
  repeat ((fail_if_success (with_reducible show Code.wp _ (Code.region _ _ _) _ _ _)); go_step)
  refine wp_plain [.val (sn (q0)), .val (bv (q0)), .new 23 32, .put 2 2 (fun _ => bl (q0))] (by kernel_rfl) (fun β => ?_) (fun β w4 hD => ?_)
  · refine Obs.cons (Ob.call 40 #[] rfl (fun w => by kernel_rfl) (fun w hg => P_q h0 w (hGl.grown hg).pr)) ?_
    refine Obs.cons (Ob.call 38 #[sn (q0)] rfl (fun w => by kernel_rfl) (fun w hg => Bytes_r (q0) w)) ?_
    refine Obs.cons (Ob.new _ rfl rfl zero32.1 (by simp [bl_length])) ?_
    refine Obs.cons (Ob.put 23 rfl rfl rfl (by kernel_rfl) (by kernel_rfl) (by rw [bl_length]; exact info32) (bl_one _)) ?_
    exact Obs.nil
  have hn_b0_b2 := ne_of_fresh hr_b0 (hD.nw 2 _ _ rfl).1
  have hn_b1_b2 := ne_of_fresh hr_b1 (hD.nw 2 _ _ rfl).1
  replace hr_b0 := rangeAt_grown hr_b0 hD.gr
  replace hr_b1 := rangeAt_grown hr_b1 hD.gr
  replace ht_b0 := there_grown ht_b0 hD.gr
  replace ht_b1 := there_grown ht_b1 hD.gr
  obtain ⟨hf_b2, ht_b2⟩ := hD.nw 2 _ _ rfl
  have hr_b2 : w4.rangeAt (β 2) 0 (bl (q0)) := hD.rg 3 2 2 (fun _ => bl (q0)) rfl
  replace hf_b2 := Nat.le_trans hW.2.2 hf_b2
  replace hW := grown_trans hW hD.gr
  clear hD
  simp only [finAct, putAll, valsFrom, Plan.value, Act.put, List.setIfInBounds_toArray, List.set_cons_zero, List.set_cons_succ]
  replace hGl := hGl0.grown hW
  generalize β (0 + 1 + 1) = b2 at *
  repeat ((fail_if_success (with_reducible show Code.wp _ (Code.region _ _ _) _ _ _)); go_step)
  have hlw := q_low h0 hr_b2
  refine wp_plain_fin [.imm (.pointer (some ⟨b2, 0, none⟩)), .val (.int .u8 237), .imm (.int .u8 238), .imm (.pointer (some ⟨b2, 0, none⟩)), .fin] b2 0 (fun _ => [.int .u8 238]) (by kernel_rfl) (fun β => ?_) (fun β wp hD => ?_)
  · refine Obs.cons (Ob.imm rfl (fun w => exec_idx 0 (by decide) rfl (by kernel_rfl) (by kernel_rfl))) ?_
    refine Obs.cons (Ob.load1 b2 0 rfl rfl (by kernel_rfl) (block_lt_of_cell hlw) hlw (fun w h => run_load8 w h)) ?_
    refine Obs.cons (Ob.imm rfl (fun w => by kernel_rfl)) ?_
    refine Obs.cons (Ob.imm rfl (fun w => exec_idx 0 (by decide) rfl (by kernel_rfl) (by kernel_rfl))) ?_
    refine Obs.cons (Ob.fin1 (.int .u8 238) rfl rfl (there_first ht_b2) rfl (by kernel_rfl) (by kernel_rfl) (fun w v0 h hf => run_store8 w v0 h hf)) ?_
    exact Obs.nil
  replace hr_b2 := q_put hq h0 (rangeAt_grown hr_b2 hD.gr)
  replace hr_b0 := World.rangeAt_setCells_apart (rangeAt_grown hr_b0 hD.gr) b2 0 [.int .u8 238] (.inl hn_b0_b2)
  replace hr_b1 := World.rangeAt_setCells_apart (rangeAt_grown hr_b1 hD.gr) b2 0 [.int .u8 238] (.inl hn_b1_b2)
  replace hW := grown_setCells hf_b2 [.int .u8 238] 0 (grown_trans hW hD.gr)
  replace hGl := hGl0.grown hW
  clear hD hlw
  simp only [finAct, putAll, valsFrom, Plan.value, Act.put, List.setIfInBounds_toArray, List.set_cons_zero, List.set_cons_succ]
  generalize wp.setCells b2 0 [.int .u8 238] = wps at *
  repeat ((fail_if_success (with_reducible show Code.wp _ (Code.region _ _ _) _ _ _)); go_step)
  clear ht_b0
  clear ht_b1
  clear ht_b2
  replace hr_b0 := rangeAt_grown hr_b0 (gdrew wps)
  replace hr_b1 := rangeAt_grown hr_b1 (gdrew wps)
  replace hr_b2 := rangeAt_grown hr_b2 (gdrew wps)
  replace hW := grown_trans hW (gdrew wps)
  replace hGl := hGl0.grown hW
  refine wp_loose [.val (bv (2)), .val (bv (q)), .val (bv (fmul (2) (q))), .val (bv (2)), .imm (.bool false), .imm (.bool false), .val (bv (q)), .val (bv (q)), .val (bv (fmul (q) (q))), .val (bv (1)), .imm (.bool false), .imm (.bool false)] (by kernel_rfl) (by kernel_rfl) (fun β => ?_) (fun β w5 hD => ?_)
  · refine Obs.cons (Ob.load (b1) 0 (bl (2)) rfl rfl (by kernel_rfl) hr_b1 Tryd.underlying23 rfl (by rw [bl_length]; exact info32)) ?_
    refine Obs.cons (Ob.load (b2) 0 (bl (q)) rfl rfl (by kernel_rfl) hr_b2 Tryd.underlying23 rfl (by rw [bl_length]; exact info32)) ?_
    refine Obs.cons (Ob.call 14 #[bv (2), bv (q)] rfl (fun w => by kernel_rfl) (fun w hg => Mul_f (2) (q) (by decide) (P1_S hq) w)) ?_
    refine Obs.cons (Ob.load (b1) 0 (bl (2)) rfl rfl (by kernel_rfl) hr_b1 Tryd.underlying23 rfl (by rw [bl_length]; exact info32)) ?_
    refine Obs.cons (Ob.imm rfl (fun w => exec_neq_same rfl (fmul (2) (q)) (2) (by kernel_rfl) (by kernel_rfl) (fmul_lt _ _) (by decide) (q_two hq) w)) ?_
    refine Obs.cons (Ob.imm rfl (fun w => by kernel_rfl)) ?_
    refine Obs.cons (Ob.load (b2) 0 (bl (q)) (by kernel_rfl) rfl (by kernel_rfl) hr_b2 Tryd.underlying23 rfl (by rw [bl_length]; exact info32)) ?_
    refine Obs.cons (Ob.load (b2) 0 (bl (q)) (by kernel_rfl) rfl (by kernel_rfl) hr_b2 Tryd.underlying23 rfl (by rw [bl_length]; exact info32)) ?_
    refine Obs.cons (Ob.call 14 #[bv (q), bv (q)] (by kernel_rfl) (fun w => by kernel_rfl) (fun w hg => Mul_f (q) (q) (P1_S hq) (P1_S hq) w)) ?_
    refine Obs.cons (Ob.load (b0) 0 (bl (1)) (by kernel_rfl) rfl (by kernel_rfl) hr_b0 Tryd.underlying23 rfl (by rw [bl_length]; exact info32)) ?_
    refine Obs.cons (Ob.imm (by kernel_rfl) (fun w => exec_neq_same rfl (fmul (q) (q)) (1) (by kernel_rfl) (by kernel_rfl) (fmul_lt _ _) (by decide) (q_sq hq) w)) ?_
    refine Obs.cons (Ob.imm rfl (fun w => by kernel_rfl)) ?_
    exact Obs.nil
  replace hr_b0 := rangeAt_grown hr_b0 hD.gr
  replace hr_b1 := rangeAt_grown hr_b1 hD.gr
  replace hr_b2 := rangeAt_grown hr_b2 hD.gr
  replace hW := grown_trans hW hD.gr
  clear hD
  simp only [finAct, putAll, valsFrom, Plan.value, Act.put, List.setIfInBounds_toArray, List.set_cons_zero, List.set_cons_succ]
  replace hGl := hGl0.grown hW
  have HH := Hid.of (And.intro hsc hn0)
  have HG := Hid.of hGl0
  clear hGl hGl0 hsc hn0
  go_wp2
  go_loopw [6] (fun v6 wr => ∃ i : Nat, v6 = .int .i64 (i : Int) ∧ i ≤ n0 ∧ Grown w wr) (fun v6 _ => ((n0 : Int) - intOf v6).toNat)
  case atStart => exact ⟨0, rfl, Nat.zero_le _, hW⟩
  case round =>
    clear hW
    obtain ⟨i, rfl, hin, hW⟩ := hrel
    by_cases hi : i < n0
    · obtain ⟨b, off, rfl, hop⟩ := HH.out.1 (by omega)
      obtain ⟨k, x, y, n, c, a, F, hx, hy, hF, hL, hr⟩ := (hop i hi).ex
      repeat ((fail_if_success (with_reducible show Code.wp _ (Code.region _ _ _) _ _ _)); go_step)
      refine wp_plain [.imm (.int .i64 (i : Int)), .imm (.slice (some ⟨b, off, none⟩) n0 c0), .imm (.int .i64 (n0 : Int)), .imm (.bool true)] (by kernel_rfl) (fun β => ?_) (fun β u1 hD => ?_)
      · refine Obs.cons (Ob.imm rfl (fun w => by kernel_rfl)) ?_
        refine Obs.cons (Ob.imm rfl (fun w => by kernel_rfl)) ?_
        refine Obs.cons (Ob.imm rfl (fun w => by kernel_rfl)) ?_
        refine Obs.cons (Ob.imm rfl (fun w => exec_lssI rfl (i : Int) (n0 : Int) (by kernel_rfl) (by kernel_rfl) true (decide_eq_true (by omega)))) ?_
        exact Obs.nil
      replace hW := grown_trans hW hD.gr
      clear hD
      simp only [finAct, putAll, valsFrom, Plan.value, Act.put, List.setIfInBounds_toArray, List.set_cons_zero, List.set_cons_succ]
      repeat ((fail_if_success (with_reducible show Code.wp _ (Code.region _ _ _) _ _ _)); go_step)
      have hr1 := rangeAt_grown hr hW
      have hL1 := hL.grown hW
      have hG1 := HG.out.grown hW
      refine wp_plain [.imm (.slice (some ⟨b, off, none⟩) n0 c0), .imm (.int .i64 (i : Int)), .imm (.pointer (some ⟨b, off + 66 * i, none⟩)), .val (ov k x y (.slice a n c)), .val (.bool true), .imm (.bool true)] (by kernel_rfl) (fun β => ?_) (fun β u2 hD => ?_)
      · refine Obs.cons (Ob.imm rfl (fun w => by kernel_rfl)) ?_
        refine Obs.cons (Ob.imm rfl (fun w => by kernel_rfl)) ?_
        refine Obs.cons (Ob.imm rfl (fun w => exec_idxSO (c := c0) i hi rfl (by kernel_rfl) (by kernel_rfl))) ?_
        refine Obs.cons (Ob.load b (off + 66 * i) (opc k x y (.slice a n c)) rfl rfl (by kernel_rfl) hr1 Tryd.underlying50 rfl (by rw [opc_length]; exact infoO)) ?_
        refine Obs.cons (Ob.call 41 #[ov k x y (.slice a n c)] rfl (fun w => by kernel_rfl) (fun w hg => plays_r k x y n c a hx hy F hF w (hL1.grown hg) (hG1.grown hg))) ?_
        refine Obs.cons (Ob.imm rfl (fun w => by kernel_rfl)) ?_
        exact Obs.nil
      replace hW := grown_trans hW hD.gr
      clear hD hr1 hL1 hG1
      simp only [finAct, putAll, valsFrom, Plan.value, Act.put, List.setIfInBounds_toArray, List.set_cons_zero, List.set_cons_succ]
      repeat ((fail_if_success (with_reducible show Code.wp _ (Code.region _ _ _) _ _ _)); go_step)
      refine wp_plain [.imm (.bool true), .imm (.bool false)] (by kernel_rfl) (fun β => ?_) (fun β u3 hD => ?_)
      · refine Obs.cons (Ob.imm rfl (fun w => by kernel_rfl)) ?_
        refine Obs.cons (Ob.imm rfl (fun w => by kernel_rfl)) ?_
        exact Obs.nil
      replace hW := grown_trans hW hD.gr
      clear hD
      simp only [finAct, putAll, valsFrom, Plan.value, Act.put, List.setIfInBounds_toArray, List.set_cons_zero, List.set_cons_succ]
      have hS := Hid.of hW
      have hii := Hid.of hi
      have eL := Hid.of (show wrap64 ((i : Int) + 1) = ((i + 1 : Nat) : Int) by have := HH.out.2; unfold wrap64; omega)
      clear hW hi hin hr hL hF hx hy hop
      go_wp2
      rw [eL.out]
      exact ⟨⟨i + 1, rfl, hii.out, hS.out⟩, by have := hii.out; simp [intOf]; omega⟩
    · obtain rfl : i = n0 := by omega
      repeat ((fail_if_success (with_reducible show Code.wp _ (Code.region _ _ _) _ _ _)); go_step)
      refine wp_plain [.imm (.int .i64 (i : Int)), .imm (.slice a0 i c0), .imm (.int .i64 (i : Int)), .imm (.bool false)] (by kernel_rfl) (fun β => ?_) (fun β u1 hD => ?_)
      · refine Obs.cons (Ob.imm rfl (fun w => by kernel_rfl)) ?_
        refine Obs.cons (Ob.imm rfl (fun w => by kernel_rfl)) ?_
        refine Obs.cons (Ob.imm rfl (fun w => by kernel_rfl)) ?_
        refine Obs.cons (Ob.imm rfl (fun w => exec_lssI rfl (i : Int) (i : Int) (by kernel_rfl) (by kernel_rfl) false (decide_eq_false (by omega)))) ?_
        exact Obs.nil
      replace hW := grown_trans hW hD.gr
      clear hD
      simp only [finAct, putAll, valsFrom, Plan.value, Act.put, List.setIfInBounds_toArray, List.set_cons_zero, List.set_cons_succ]
      repeat ((fail_if_success (with_reducible show Code.wp _ (Code.region _ _ _) _ _ _)); go_step)
      refine wp_plain [.imm (.bool true)] (by kernel_rfl) (fun β => ?_) (fun β u2 hD => ?_)
      · refine Obs.cons (Ob.imm rfl (fun w => by kernel_rfl)) ?_
        exact Obs.nil
      replace hW := grown_trans hW hD.gr
      clear hD
      simp only [finAct, putAll, valsFrom, Plan.value, Act.put, List.setIfInBounds_toArray, List.set_cons_zero, List.set_cons_succ]
      repeat go_step
      go_ret
      exact ⟨rfl, hW⟩

end Go.Proofs.YtkegcilcapnpdaaDoor
