import Derived.Test.YtoimglbjepppmaaDoorZFb3
namespace FieldNum
theorem inv_1 : inv 1 = 1 := (inv_uniq (by decide +kernel) (by decide +kernel)).symm
end FieldNum
namespace Go.Proofs.YtoimglbjepppmaaDoor
open Go.RowKit Go.Shelf FieldNum

theorem wpList_calls {P : Program} {ops : Array Oper} {Q : Exit → Act → World → Prop} {a : Act} {w : World} {rest : List Oper} {o : Oper} {f : FuncId} {args : Array Value} {R : Ending → World → Prop} (hg : o.guard = none) (he : (execOp a.eval o).run P w = .ok (.enter f args) w) (hc : Calls P f args w R)
    (h : ∀ e w', R e w' → ∃ v, e = .returned v ∧ wpList P ops Q rest (a.put o.dst v) w') : wpList P ops Q (o :: rest) a w :=
  wpList_plain hg fun K hK => by
    unfold Oper.wp
    rw [he]
    refine Calls.mono hc ?_
    intro e w' hR
    obtain ⟨v, rfl, h⟩ := h e w' hR
    exact hK _ _ h
theorem Invert_one (w : World) (hG : w.rangeAt 5 0 PW) : Calls Tryd.prog 11 #[bv 1] w fun e w' => e = .returned (bv 1) ∧ Grown w w' := by
  have := Invert_any 1 (by decide) w hG
  rwa [inv_1] at this
theorem prime_v (pp : Nat) (h : pp = p) (w : World) : Calls Tryd.prog 15 #[] w fun e w' => e = .returned (bv pp) ∧ Grown w w' := by
  subst h; exact prime_any w
theorem inv_M (x : Nat) : inv x < M := Nat.lt_trans (inv_lt _) (by decide)
set_option maxRecDepth 100000 in
set_option maxHeartbeats 2000000 in
theorem Batch_long (a : Option Addr) (n c : Nat) (hn : 256 < n) (w : World) : Calls Tryd.prog 10 #[.slice a n c] w fun e w' => e = .returned (.slice none 0 0) ∧ Grown w w' := by
  go_enter Tryd.func10, Tryd.ntmps10
  repeat ((fail_if_success (with_reducible show Code.wp _ (Code.region _ _ _) _ _ _)); go_step)
  refine wp_plain [.imm (.slice none 0 0)] (by kernel_rfl) (fun β => ?_) (fun β w1 hD => ?_)
  · refine Obs.cons (Ob.imm rfl (fun w => by kernel_rfl)) ?_
    exact Obs.nil
  have hW := hD.gr
  clear hD
  simp only [finAct, putAll, valsFrom, Plan.value, Act.put, List.setIfInBounds_toArray, List.set_cons_zero, List.set_cons_succ]
  repeat ((fail_if_success (with_reducible show Code.wp _ (Code.region _ _ _) _ _ _)); go_step)
  refine wp_plain [.imm (.slice a n c), .imm (.int .i64 (n : Int)), .imm (.bool true)] (by kernel_rfl) (fun β => ?_) (fun β w2 hD => ?_)
  · refine Obs.cons (Ob.imm rfl (fun w => by kernel_rfl)) ?_
    refine Obs.cons (Ob.imm rfl (fun w => by kernel_rfl)) ?_
    refine Obs.cons (Ob.imm rfl (fun w => exec_gtrI rfl (n : Int) 256 (by kernel_rfl) (by kernel_rfl) true (decide_eq_true (by omega)))) ?_
    exact Obs.nil
  replace hW := grown_trans hW hD.gr
  clear hD
  simp only [finAct, putAll, valsFrom, Plan.value, Act.put, List.setIfInBounds_toArray, List.set_cons_zero, List.set_cons_succ]
  repeat ((fail_if_success (with_reducible show Code.wp _ (Code.region _ _ _) _ _ _)); go_step)
  refine wp_plain [.imm (.slice none 0 0)] (by kernel_rfl) (fun β => ?_) (fun β w3 hD => ?_)
  · refine Obs.cons (Ob.imm rfl (fun w => by kernel_rfl)) ?_
    exact Obs.nil
  replace hW := grown_trans hW hD.gr
  clear hD
  simp only [finAct, putAll, valsFrom, Plan.value, Act.put, List.setIfInBounds_toArray, List.set_cons_zero, List.set_cons_succ]
  repeat go_step
  go_ret
  exact ⟨rfl, hW⟩

structure LX (w0 : World) (b o n : Nat) (f : Nat → Nat) (r z u : Nat) (wr : World) : Prop where
  li : ∀ i, i < n → wr.rangeAt b (o + 32 * i) (bl (f i))
  di : ∀ i, i < n → wr.rangeAt r (32 * i) (bl (inv (f i)))
  rz : wr.rangeAt z 0 (bl 0)
  ru : wr.rangeAt u 0 (bl 1)
  gw : Grown w0 wr
theorem LX.grown {w0 wr w' : World} {b o n : Nat} {f : Nat → Nat} {r z u : Nat} (s : LX w0 b o n f r z u wr) (hg : Grown wr w') : LX w0 b o n f r z u w' :=
  ⟨fun i hi => rangeAt_grown (s.li i hi) hg, fun i hi => rangeAt_grown (s.di i hi) hg, rangeAt_grown s.rz hg, rangeAt_grown s.ru hg, grown_trans s.gw hg⟩
set_option maxRecDepth 100000 in
set_option maxHeartbeats 4000000 in
theorem Fb_long (a : Option Addr) (n c : Nat) (hn : 256 < n) (w : World) (hGl0 : Gb w) : Calls Tryd.prog 3 #[.slice a n c] w fun e w' => e = .returned (.bool true) ∧ Grown w w' := by
  go_enter Tryd.func3, Tryd.ntmps3
  repeat ((fail_if_success (with_reducible show Code.wp _ (Code.region _ _ _) _ _ _)); go_step)
  refine wp_plain [.imm (.bool false)] (by kernel_rfl) (fun β => ?_) (fun β w1 hD => ?_)
  · refine Obs.cons (Ob.imm rfl (fun w => by kernel_rfl)) ?_
    exact Obs.nil
  have hW := hD.gr
  clear hD
  simp only [finAct, putAll, valsFrom, Plan.value, Act.put, List.setIfInBounds_toArray, List.set_cons_zero, List.set_cons_succ]
  repeat ((fail_if_success (with_reducible show Code.wp _ (Code.region _ _ _) _ _ _)); go_step)
  refine wp_plain [.val (bv 0), .new 23 32, .put 1 1 (fun _ => bl 0)] (by kernel_rfl) (fun β => ?_) (fun β w2 hD => ?_)
  · refine Obs.cons (Ob.call 9 #[.int .u8 0] rfl (fun w => by kernel_rfl) (fun w _ => number_nat 0 (by decide) 0 rfl w)) ?_
    refine Obs.cons (Ob.new _ rfl rfl zero32.1 (by simp [bl_length])) ?_
    refine Obs.cons (Ob.put 23 rfl rfl rfl (by kernel_rfl) (by kernel_rfl) (by rw [bl_length]; exact info32) (bl_one _)) ?_
    exact Obs.nil
  have hz0 : w2.rangeAt (β 1) 0 (bl 0) := hD.rg 2 1 1 (fun _ => bl 0) rfl
  replace hW := grown_trans hW hD.gr
  clear hD
  simp only [finAct, putAll, valsFrom, Plan.value, Act.put, List.setIfInBounds_toArray, List.set_cons_zero, List.set_cons_succ]
  generalize β (0 + 1) = Z at *
  repeat ((fail_if_success (with_reducible show Code.wp _ (Code.region _ _ _) _ _ _)); go_step)
  refine wp_plain [.val (bv 1), .new 23 32, .put 1 1 (fun _ => bl 1)] (by kernel_rfl) (fun β => ?_) (fun β w3 hD => ?_)
  · refine Obs.cons (Ob.call 9 #[.int .u8 1] rfl (fun w => by kernel_rfl) (fun w _ => number_nat 1 (by decide) 1 rfl w)) ?_
    refine Obs.cons (Ob.new _ rfl rfl zero32.1 (by simp [bl_length])) ?_
    refine Obs.cons (Ob.put 23 rfl rfl rfl (by kernel_rfl) (by kernel_rfl) (by rw [bl_length]; exact info32) (bl_one _)) ?_
    exact Obs.nil
  have hu0 : w3.rangeAt (β 1) 0 (bl 1) := hD.rg 2 1 1 (fun _ => bl 1) rfl
  replace hz0 := rangeAt_grown hz0 hD.gr
  replace hW := grown_trans hW hD.gr
  clear hD
  simp only [finAct, putAll, valsFrom, Plan.value, Act.put, List.setIfInBounds_toArray, List.set_cons_zero, List.set_cons_succ]
  generalize β (0 + 1) = U at *
  repeat ((fail_if_success (with_reducible show Code.wp _ (Code.region _ _ _) _ _ _)); go_step)
  clear hz0
  refine wp_plain [.imm (.slice a n c), .val (.slice none 0 0), .imm (.slice none 0 0)] (by kernel_rfl) (fun β => ?_) (fun β w4 hD => ?_)
  · refine Obs.cons (Ob.imm rfl (fun w => by kernel_rfl)) ?_
    refine Obs.cons (Ob.call 10 #[.slice a n c] rfl (fun w => by kernel_rfl) (fun w _ => Batch_long a n c hn w)) ?_
    refine Obs.cons (Ob.imm rfl (fun w => by kernel_rfl)) ?_
    exact Obs.nil
  replace hu0 := rangeAt_grown hu0 hD.gr
  replace hW := grown_trans hW hD.gr
  clear hD
  simp only [finAct, putAll, valsFrom, Plan.value, Act.put, List.setIfInBounds_toArray, List.set_cons_zero, List.set_cons_succ]
  repeat ((fail_if_success (with_reducible show Code.wp _ (Code.region _ _ _) _ _ _)); go_step)
  refine wp_plain [.imm (.slice a n c), .imm (.int .i64 (n : Int)), .imm (.bool true)] (by kernel_rfl) (fun β => ?_) (fun β w5 hD => ?_)
  · refine Obs.cons (Ob.imm rfl (fun w => by kernel_rfl)) ?_
    refine Obs.cons (Ob.imm rfl (fun w => by kernel_rfl)) ?_
    refine Obs.cons (Ob.imm rfl (fun w => exec_gtrI rfl (n : Int) 256 (by kernel_rfl) (by kernel_rfl) true (decide_eq_true (by omega)))) ?_
    exact Obs.nil
  replace hu0 := rangeAt_grown (rangeAt_grown hu0 hD.gr) (gdrew w5)
  replace hW := grown_trans (grown_trans hW hD.gr) (gdrew w5)
  clear hD
  have hGl := hGl0.grown hW
  simp only [finAct, putAll, valsFrom, Plan.value, Act.put, List.setIfInBounds_toArray, List.set_cons_zero, List.set_cons_succ]
  repeat ((fail_if_success (with_reducible show Code.wp _ (Code.region _ _ _) _ _ _)); go_step)
  refine wp_loose [.imm (.slice none 0 0), .imm (.int .i64 0), .imm (.bool true), .imm (.bool true), .val (bv 1), .val (bv 1), .val (bv 1), .imm (.bool true), .imm (.bool true), .imm (.bool true)] (by kernel_rfl) (by kernel_rfl) (fun β => ?_) (fun β w6 hD => ?_)
  · refine Obs.cons (Ob.imm rfl (fun w => by kernel_rfl)) ?_
    refine Obs.cons (Ob.imm rfl (fun w => by kernel_rfl)) ?_
    refine Obs.cons (Ob.imm rfl (fun w => by kernel_rfl)) ?_
    refine Obs.cons (Ob.imm rfl (fun w => by kernel_rfl)) ?_
    refine Obs.cons (Ob.load U 0 (bl 1) (by kernel_rfl) rfl (by kernel_rfl) hu0 Tryd.underlying23 rfl (by rw [bl_length]; exact info32)) ?_
    refine Obs.cons (Ob.call 11 #[bv 1] (by kernel_rfl) (fun w => by kernel_rfl) (fun w hg => Invert_one w (hGl.grown hg).pw)) ?_
    refine Obs.cons (Ob.load U 0 (bl 1) (by kernel_rfl) rfl (by kernel_rfl) hu0 Tryd.underlying23 rfl (by rw [bl_length]; exact info32)) ?_
    refine Obs.cons (Ob.imm (by kernel_rfl) (fun w => exec_eql_same rfl 1 1 (by kernel_rfl) (by kernel_rfl) (by decide) (by decide) rfl w)) ?_
    refine Obs.cons (Ob.imm rfl (fun w => by kernel_rfl)) ?_
    refine Obs.cons (Ob.imm rfl (fun w => by kernel_rfl)) ?_
    exact Obs.nil
  replace hW := grown_trans hW hD.gr
  clear hD
  simp only [finAct, putAll, valsFrom, Plan.value, Act.put, List.setIfInBounds_toArray, List.set_cons_zero, List.set_cons_succ]
  repeat go_step
  go_ret
  exact ⟨rfl, hW⟩

set_option maxRecDepth 100000 in
set_option maxHeartbeats 8000000 in
theorem Fb_num (a : Option Addr) (b o n c : Nat) (f : Nat → Nat) (hn : n ≤ 256) (hs : 0 < n → a = some ⟨b, o, none⟩) (hf : ∀ i, i < n → f i < M) (pp : Nat) (hpp : Hid (pp = p)) (w : World) (hb : 0 < n → b < w.heap.size) (hr : ∀ i, i < n → w.rangeAt b (o + 32 * i) (bl (f i))) (hGl0 : Gb w) :
    Calls Tryd.prog 3 #[.slice a n c] w fun e w' => e = .returned (.bool true) ∧ Grown w w' := by
  go_enter Tryd.func3, Tryd.ntmps3
  repeat ((fail_if_success (with_reducible show Code.wp _ (Code.region _ _ _) _ _ _)); go_step)
  refine wp_plain [.imm (.bool false)] (by kernel_rfl) (fun β => ?_) (fun β w1 hD => ?_)
  · refine Obs.cons (Ob.imm rfl (fun w => by kernel_rfl)) ?_
    exact Obs.nil
  have hW := hD.gr
  clear hD
  simp only [finAct, putAll, valsFrom, Plan.value, Act.put, List.setIfInBounds_toArray, List.set_cons_zero, List.set_cons_succ]
  repeat ((fail_if_success (with_reducible show Code.wp _ (Code.region _ _ _) _ _ _)); go_step)
  refine wp_plain [.val (bv 0), .new 23 32, .put 1 1 (fun _ => bl 0)] (by kernel_rfl) (fun β => ?_) (fun β w2 hD => ?_)
  · refine Obs.cons (Ob.call 9 #[.int .u8 0] rfl (fun w => by kernel_rfl) (fun w _ => number_nat 0 (by decide) 0 rfl w)) ?_
    refine Obs.cons (Ob.new _ rfl rfl zero32.1 (by simp [bl_length])) ?_
    refine Obs.cons (Ob.put 23 rfl rfl rfl (by kernel_rfl) (by kernel_rfl) (by rw [bl_length]; exact info32) (bl_one _)) ?_
    exact Obs.nil
  have hz0 : w2.rangeAt (β 1) 0 (bl 0) := hD.rg 2 1 1 (fun _ => bl 0) rfl
  replace hW := grown_trans hW hD.gr
  clear hD
  simp only [finAct, putAll, valsFrom, Plan.value, Act.put, List.setIfInBounds_toArray, List.set_cons_zero, List.set_cons_succ]
  generalize β (0 + 1) = Z at *
  repeat ((fail_if_success (with_reducible show Code.wp _ (Code.region _ _ _) _ _ _)); go_step)
  refine wp_plain [.val (bv 1), .new 23 32, .put 1 1 (fun _ => bl 1)] (by kernel_rfl) (fun β => ?_) (fun β w3 hD => ?_)
  · refine Obs.cons (Ob.call 9 #[.int .u8 1] rfl (fun w => by kernel_rfl) (fun w _ => number_nat 1 (by decide) 1 rfl w)) ?_
    refine Obs.cons (Ob.new _ rfl rfl zero32.1 (by simp [bl_length])) ?_
    refine Obs.cons (Ob.put 23 rfl rfl rfl (by kernel_rfl) (by kernel_rfl) (by rw [bl_length]; exact info32) (bl_one _)) ?_
    exact Obs.nil
  have hu0 : w3.rangeAt (β 1) 0 (bl 1) := hD.rg 2 1 1 (fun _ => bl 1) rfl
  replace hz0 := rangeAt_grown hz0 hD.gr
  replace hW := grown_trans hW hD.gr
  clear hD
  simp only [finAct, putAll, valsFrom, Plan.value, Act.put, List.setIfInBounds_toArray, List.set_cons_zero, List.set_cons_succ]
  generalize β (0 + 1) = U at *
  repeat ((fail_if_success (with_reducible show Code.wp _ (Code.region _ _ _) _ _ _)); go_step)
  refine wp_region_lit ?_
  refine wpList_run (v := .slice a n c) (w' := w3) rfl (by kernel_rfl) ?_
  refine wpList_calls (f := 10) (args := #[.slice a n c]) rfl (by kernel_rfl) (Batch_num a b o n c f hn hs hf w3 (fun h => Nat.lt_of_lt_of_le (hb h) hW.2.2) (fun i hi => rangeAt_grown (hr i hi) hW) (hGl0.grown hW)) ?_
  rintro e w4 ⟨⟨r, rfl, hr0, hrr⟩, hg4⟩
  refine ⟨_, rfl, ?_⟩
  refine wpList_run (v := .slice (some ⟨r, 0, none⟩) n n) (w' := w4) rfl (by kernel_rfl) ?_
  apply wpList_nil
  simp only [Act.put, List.setIfInBounds_toArray, List.set_cons_zero, List.set_cons_succ]
  have hX : LX w b o n f r Z U w4 := ⟨fun i hi => rangeAt_grown (rangeAt_grown (hr i hi) hW) hg4, hrr, rangeAt_grown hz0 hg4, rangeAt_grown hu0 hg4, grown_trans hW hg4⟩
  clear hr0 hrr hg4 hz0 hu0 hW hr hb
  have hnn := Hid.of hn
  have hff := Hid.of hf
  have hss := Hid.of hs
  clear hf hs
  repeat ((fail_if_success (with_reducible show Code.wp _ (Code.region _ _ _) _ _ _)); go_step)
  refine wp_plain [.imm (.slice a n c), .imm (.int .i64 (n : Int)), .imm (.bool false)] (by kernel_rfl) (fun β => ?_) (fun β w5 hD => ?_)
  · refine Obs.cons (Ob.imm rfl (fun w => by kernel_rfl)) ?_
    refine Obs.cons (Ob.imm rfl (fun w => by kernel_rfl)) ?_
    refine Obs.cons (Ob.imm rfl (fun w => exec_gtrI rfl (n : Int) 256 (by kernel_rfl) (by kernel_rfl) false (decide_eq_false (by omega)))) ?_
    exact Obs.nil
  replace hX := (hX.grown hD.gr).grown (gdrew w5)
  clear hD hn
  have hGl := hGl0.grown hX.gw
  simp only [finAct, putAll, valsFrom, Plan.value, Act.put, List.setIfInBounds_toArray, List.set_cons_zero, List.set_cons_succ]
  repeat ((fail_if_success (with_reducible show Code.wp _ (Code.region _ _ _) _ _ _)); go_step)
  refine wp_loose [.imm (.slice (some ⟨r, 0, none⟩) n n), .imm (.int .i64 (n : Int)), .imm (.slice a n c), .imm (.int .i64 (n : Int)), .imm (.bool false), .imm (.bool false), .val (bv 1), .val (bv 1), .val (bv 1), .imm (.bool false), .imm (.bool false)] (by kernel_rfl) (by kernel_rfl) (fun β => ?_) (fun β w6 hD => ?_)
  · refine Obs.cons (Ob.imm rfl (fun w => by kernel_rfl)) ?_
    refine Obs.cons (Ob.imm rfl (fun w => by kernel_rfl)) ?_
    refine Obs.cons (Ob.imm rfl (fun w => by kernel_rfl)) ?_
    refine Obs.cons (Ob.imm rfl (fun w => by kernel_rfl)) ?_
    refine Obs.cons (Ob.imm rfl (fun w => exec_neqI rfl (n : Int) (n : Int) (by kernel_rfl) (by kernel_rfl) false (by simp))) ?_
    refine Obs.cons (Ob.imm rfl (fun w => by kernel_rfl)) ?_
    refine Obs.cons (Ob.load U 0 (bl 1) (by kernel_rfl) rfl (by kernel_rfl) hX.ru Tryd.underlying23 rfl (by rw [bl_length]; exact info32)) ?_
    refine Obs.cons (Ob.call 11 #[bv 1] (by kernel_rfl) (fun w => by kernel_rfl) (fun w hg => Invert_one w (hGl.grown hg).pw)) ?_
    refine Obs.cons (Ob.load U 0 (bl 1) (by kernel_rfl) rfl (by kernel_rfl) hX.ru Tryd.underlying23 rfl (by rw [bl_length]; exact info32)) ?_
    refine Obs.cons (Ob.imm (by kernel_rfl) (fun w => exec_neq_same rfl 1 1 (by kernel_rfl) (by kernel_rfl) (by decide) (by decide) rfl w)) ?_
    refine Obs.cons (Ob.imm rfl (fun w => by kernel_rfl)) ?_
    exact Obs.nil
  have hP0 := hX.grown hD.gr
  clear hD hX hGl
  simp only [finAct, putAll, valsFrom, Plan.value, Act.put, List.setIfInBounds_toArray, List.set_cons_zero, List.set_cons_succ]
  go_wp2
  go_loopw [6] (fun v wr => ∃ (k : Nat), v = .int .i64 (k : Int) ∧ k ≤ n ∧ LX w b o n f r Z U wr) (fun v _ => ((n : Int) - intOf v).toNat)
  case atStart => exact ⟨0, rfl, Nat.zero_le _, hP0⟩
  case round =>
    obtain ⟨k, rfl, hk0, hX⟩ := hrel
    clear hP0
    by_cases hk : k < n
    · have ha := hss.out (by omega)
      subst ha
      have hfk := hff.out k hk
      clear hk0
      repeat ((fail_if_success (with_reducible show Code.wp _ (Code.region _ _ _) _ _ _)); go_step)
      refine wp_plain [.imm (.int .i64 (k : Int)), .imm (.slice (some ⟨b, o, none⟩) n c), .imm (.int .i64 (n : Int)), .imm (.bool true)] (by kernel_rfl) (fun β => ?_) (fun β u1 hD => ?_)
      · refine Obs.cons (Ob.imm rfl (fun w => by kernel_rfl)) ?_
        refine Obs.cons (Ob.imm rfl (fun w => by kernel_rfl)) ?_
        refine Obs.cons (Ob.imm rfl (fun w => by kernel_rfl)) ?_
        refine Obs.cons (Ob.imm rfl (fun w => exec_lssI rfl (k : Int) (n : Int) (by kernel_rfl) (by kernel_rfl) true (decide_eq_true (by omega)))) ?_
        exact Obs.nil
      replace hX := (hX.grown hD.gr).grown (gdrew u1)
      clear hD
      simp only [finAct, putAll, valsFrom, Plan.value, Act.put, List.setIfInBounds_toArray, List.set_cons_zero, List.set_cons_succ]
      repeat ((fail_if_success (with_reducible show Code.wp _ (Code.region _ _ _) _ _ _)); go_step)
      refine wp_loose [.imm (.slice (some ⟨b, o, none⟩) n c), .imm (.int .i64 (k : Int)), .imm (.pointer (some ⟨b, o + 32 * k, none⟩)), .val (bv (f k)), .imm (.slice (some ⟨r, 0, none⟩) n n), .imm (.int .i64 (k : Int)), .imm (.pointer (some ⟨r, 32 * k, none⟩)), .val (bv (inv (f k))), .val (bv (fmul (f k) (inv (f k)))), .new 23 32, .put 9 9 (fun _ => bl (fmul (f k) (inv (f k))))] (by kernel_rfl) (by kernel_rfl) (fun β => ?_) (fun β u2 hD => ?_)
      · refine Obs.cons (Ob.imm rfl (fun w => by kernel_rfl)) ?_
        refine Obs.cons (Ob.imm rfl (fun w => by kernel_rfl)) ?_
        refine Obs.cons (Ob.imm rfl (fun w => exec_idxSB (c := c) k hk rfl (by kernel_rfl) (by kernel_rfl))) ?_
        refine Obs.cons (Ob.load b (o + 32 * k) (bl (f k)) rfl rfl (by kernel_rfl) (hX.li k hk) Tryd.underlying23 rfl (by rw [bl_length]; exact info32)) ?_
        refine Obs.cons (Ob.imm rfl (fun w => by kernel_rfl)) ?_
        refine Obs.cons (Ob.imm rfl (fun w => by kernel_rfl)) ?_
        refine Obs.cons (Ob.imm rfl (fun w => exec_idxRB (c := n) k hk rfl (by kernel_rfl) (by kernel_rfl))) ?_
        refine Obs.cons (Ob.load r (32 * k) (bl (inv (f k))) rfl rfl (by kernel_rfl) (hX.di k hk) Tryd.underlying23 rfl (by rw [bl_length]; exact info32)) ?_
        refine Obs.cons (Ob.call 12 #[bv (f k), bv (inv (f k))] rfl (fun w => by kernel_rfl) (fun w _ => Mul_f (f k) (inv (f k)) hfk (inv_M _) w)) ?_
        refine Obs.cons (Ob.new _ rfl rfl zero32.1 (by simp [bl_length])) ?_
        refine Obs.cons (Ob.put 23 rfl rfl rfl (by kernel_rfl) (by kernel_rfl) (by rw [bl_length]; exact info32) (bl_one _)) ?_
        exact Obs.nil
      have hrD : u2.rangeAt (β 9) 0 (bl (fmul (f k) (inv (f k)))) := hD.rg 10 9 9 (fun _ => bl (fmul (f k) (inv (f k)))) rfl
      replace hrD := rangeAt_grown hrD (gdrew u2)
      replace hX := (hX.grown hD.gr).grown (gdrew u2)
      clear hD
      simp only [finAct, putAll, valsFrom, Plan.value, Act.put, List.setIfInBounds_toArray, List.set_cons_zero, List.set_cons_succ]
      generalize β (0 + 1 + 1 + 1 + 1 + 1 + 1 + 1 + 1 + 1) = D at *
      repeat ((fail_if_success (with_reducible show Code.wp _ (Code.region _ _ _) _ _ _)); go_step)
      have eL := Hid.of (show wrap64 ((k : Int) + 1) = ((k + 1 : Nat) : Int) by have := hnn.out; unfold wrap64; omega)
      have hkk := Hid.of hk
      by_cases h0 : f k % p = 0
      · refine wp_loose [.imm (.slice (some ⟨b, o, none⟩) n c), .imm (.int .i64 (k : Int)), .imm (.pointer (some ⟨b, o + 32 * k, none⟩)), .val (bv (f k)), .val (bv (fred (f k))), .val (bv 0), .imm (.bool true)] (by kernel_rfl) (by kernel_rfl) (fun β => ?_) (fun β u3 hD => ?_)
        · refine Obs.cons (Ob.imm rfl (fun w => by kernel_rfl)) ?_
          refine Obs.cons (Ob.imm rfl (fun w => by kernel_rfl)) ?_
          refine Obs.cons (Ob.imm rfl (fun w => exec_idxSB (c := c) k hk rfl (by kernel_rfl) (by kernel_rfl))) ?_
          refine Obs.cons (Ob.load b (o + 32 * k) (bl (f k)) rfl rfl (by kernel_rfl) (hX.li k hk) Tryd.underlying23 rfl (by rw [bl_length]; exact info32)) ?_
          refine Obs.cons (Ob.call 13 #[bv (f k)] rfl (fun w => by kernel_rfl) (fun w _ => Reduce_f (f k) hfk w)) ?_
          refine Obs.cons (Ob.load Z 0 (bl 0) rfl rfl (by kernel_rfl) hX.rz Tryd.underlying23 rfl (by rw [bl_length]; exact info32)) ?_
          refine Obs.cons (Ob.imm rfl (fun w => exec_eql_same rfl (fred (f k)) 0 (by kernel_rfl) (by kernel_rfl) (mod_M _) (by decide) h0 w)) ?_
          exact Obs.nil
        replace hX := (hX.grown hD.gr).grown (gdrew u3)
        clear hD hrD
        simp only [finAct, putAll, valsFrom, Plan.value, Act.put, List.setIfInBounds_toArray, List.set_cons_zero, List.set_cons_succ]
        repeat ((fail_if_success (with_reducible show Code.wp _ (Code.region _ _ _) _ _ _)); go_step)
        refine wp_loose [.imm (.slice (some ⟨r, 0, none⟩) n n), .imm (.int .i64 (k : Int)), .imm (.pointer (some ⟨r, 32 * k, none⟩)), .val (bv (inv (f k))), .val (bv 0), .imm (.bool false)] (by kernel_rfl) (by kernel_rfl) (fun β => ?_) (fun β u4 hD => ?_)
        · refine Obs.cons (Ob.imm rfl (fun w => by kernel_rfl)) ?_
          refine Obs.cons (Ob.imm rfl (fun w => by kernel_rfl)) ?_
          refine Obs.cons (Ob.imm rfl (fun w => exec_idxRB (c := n) k hk rfl (by kernel_rfl) (by kernel_rfl))) ?_
          refine Obs.cons (Ob.load r (32 * k) (bl (inv (f k))) rfl rfl (by kernel_rfl) (hX.di k hk) Tryd.underlying23 rfl (by rw [bl_length]; exact info32)) ?_
          refine Obs.cons (Ob.load Z 0 (bl 0) rfl rfl (by kernel_rfl) hX.rz Tryd.underlying23 rfl (by rw [bl_length]; exact info32)) ?_
          refine Obs.cons (Ob.imm rfl (fun w => exec_neq_same rfl (inv (f k)) 0 (by kernel_rfl) (by kernel_rfl) (inv_M _) (by decide) (inv_0 h0) w)) ?_
          exact Obs.nil
        have hX6 := Hid.of (hX.grown hD.gr)
        clear hD hX h0 hk
        simp only [finAct, putAll, valsFrom, Plan.value, Act.put, List.setIfInBounds_toArray, List.set_cons_zero, List.set_cons_succ]
        go_wp2
        rw [eL.out]
        exact ⟨⟨k + 1, rfl, hkk.out, hX6.out⟩, by have := hkk.out; simp [intOf]; omega⟩
      · refine wp_loose [.imm (.slice (some ⟨b, o, none⟩) n c), .imm (.int .i64 (k : Int)), .imm (.pointer (some ⟨b, o + 32 * k, none⟩)), .val (bv (f k)), .val (bv (fred (f k))), .val (bv 0), .imm (.bool false)] (by kernel_rfl) (by kernel_rfl) (fun β => ?_) (fun β u3 hD => ?_)
        · refine Obs.cons (Ob.imm rfl (fun w => by kernel_rfl)) ?_
          refine Obs.cons (Ob.imm rfl (fun w => by kernel_rfl)) ?_
          refine Obs.cons (Ob.imm rfl (fun w => exec_idxSB (c := c) k hk rfl (by kernel_rfl) (by kernel_rfl))) ?_
          refine Obs.cons (Ob.load b (o + 32 * k) (bl (f k)) rfl rfl (by kernel_rfl) (hX.li k hk) Tryd.underlying23 rfl (by rw [bl_length]; exact info32)) ?_
          refine Obs.cons (Ob.call 13 #[bv (f k)] rfl (fun w => by kernel_rfl) (fun w _ => Reduce_f (f k) hfk w)) ?_
          refine Obs.cons (Ob.load Z 0 (bl 0) rfl rfl (by kernel_rfl) hX.rz Tryd.underlying23 rfl (by rw [bl_length]; exact info32)) ?_
          refine Obs.cons (Ob.imm rfl (fun w => exec_eql_apart rfl (fred (f k)) 0 (by kernel_rfl) (by kernel_rfl) (mod_M _) (by decide) h0 w)) ?_
          exact Obs.nil
        replace hrD := rangeAt_grown (rangeAt_grown hrD hD.gr) (gdrew u3)
        replace hX := (hX.grown hD.gr).grown (gdrew u3)
        clear hD
        simp only [finAct, putAll, valsFrom, Plan.value, Act.put, List.setIfInBounds_toArray, List.set_cons_zero, List.set_cons_succ]
        repeat ((fail_if_success (with_reducible show Code.wp _ (Code.region _ _ _) _ _ _)); go_step)
        refine wp_loose [.val (bv (fmul (f k) (inv (f k)))), .val (bv 1), .imm (.bool false), .imm (.bool false), .imm (.slice (some ⟨r, 0, none⟩) n n), .imm (.int .i64 (k : Int)), .imm (.pointer (some ⟨r, 32 * k, none⟩)), .val (bv (inv (f k))), .val (bv pp), .val (.bool true), .imm (.bool false), .imm (.bool false)] (by kernel_rfl) (by kernel_rfl) (fun β => ?_) (fun β u4 hD => ?_)
        · refine Obs.cons (Ob.load D 0 (bl (fmul (f k) (inv (f k)))) rfl rfl (by kernel_rfl) hrD Tryd.underlying23 rfl (by rw [bl_length]; exact info32)) ?_
          refine Obs.cons (Ob.load U 0 (bl 1) rfl rfl (by kernel_rfl) hX.ru Tryd.underlying23 rfl (by rw [bl_length]; exact info32)) ?_
          refine Obs.cons (Ob.imm rfl (fun w => exec_neq_same rfl (fmul (f k) (inv (f k))) 1 (by kernel_rfl) (by kernel_rfl) (fmul_lt _ _) (by decide) (mul_inv h0) w)) ?_
          refine Obs.cons (Ob.imm rfl (fun w => by kernel_rfl)) ?_
          refine Obs.cons (Ob.imm (by kernel_rfl) (fun w => by kernel_rfl)) ?_
          refine Obs.cons (Ob.imm (by kernel_rfl) (fun w => by kernel_rfl)) ?_
          refine Obs.cons (Ob.imm (by kernel_rfl) (fun w => exec_idxRB (c := n) k hk rfl (by kernel_rfl) (by kernel_rfl))) ?_
          refine Obs.cons (Ob.load r (32 * k) (bl (inv (f k))) (by kernel_rfl) rfl (by kernel_rfl) (hX.di k hk) Tryd.underlying23 rfl (by rw [bl_length]; exact info32)) ?_
          refine Obs.cons (Ob.call 15 #[] (by kernel_rfl) (fun w => by kernel_rfl) (fun w _ => prime_v pp hpp.out w)) ?_
          refine Obs.cons (Ob.call 14 #[bv (inv (f k)), bv pp] (by kernel_rfl) (fun w => by kernel_rfl) (fun w _ => less_is (inv (f k)) pp (inv_M _) (by rw [hpp.out]; decide) true (decide_eq_true (by rw [hpp.out]; exact inv_lt _)) w)) ?_
          refine Obs.cons (Ob.imm (by kernel_rfl) (fun w => by kernel_rfl)) ?_
          refine Obs.cons (Ob.imm rfl (fun w => by kernel_rfl)) ?_
          exact Obs.nil
        have hX6 := Hid.of (hX.grown hD.gr)
        clear hD hX hrD h0 hk
        simp only [finAct, putAll, valsFrom, Plan.value, Act.put, List.setIfInBounds_toArray, List.set_cons_zero, List.set_cons_succ]
        go_wp2
        rw [eL.out]
        exact ⟨⟨k + 1, rfl, hkk.out, hX6.out⟩, by have := hkk.out; simp [intOf]; omega⟩
    · obtain rfl : n = k := by omega
      clear hk0 hk
      repeat ((fail_if_success (with_reducible show Code.wp _ (Code.region _ _ _) _ _ _)); go_step)
      refine wp_plain [.imm (.int .i64 (n : Int)), .imm (.slice a n c), .imm (.int .i64 (n : Int)), .imm (.bool false)] (by kernel_rfl) (fun β => ?_) (fun β v1 hD => ?_)
      · refine Obs.cons (Ob.imm rfl (fun w => by kernel_rfl)) ?_
        refine Obs.cons (Ob.imm rfl (fun w => by kernel_rfl)) ?_
        refine Obs.cons (Ob.imm rfl (fun w => by kernel_rfl)) ?_
        refine Obs.cons (Ob.imm rfl (fun w => exec_lssI rfl (n : Int) (n : Int) (by kernel_rfl) (by kernel_rfl) false (decide_eq_false (by omega)))) ?_
        exact Obs.nil
      replace hX := hX.grown hD.gr
      clear hD
      simp only [finAct, putAll, valsFrom, Plan.value, Act.put, List.setIfInBounds_toArray, List.set_cons_zero, List.set_cons_succ]
      repeat ((fail_if_success (with_reducible show Code.wp _ (Code.region _ _ _) _ _ _)); go_step)
      refine wp_plain [.imm (.bool true)] (by kernel_rfl) (fun β => ?_) (fun β v2 hD => ?_)
      · refine Obs.cons (Ob.imm rfl (fun w => by kernel_rfl)) ?_
        exact Obs.nil
      replace hX := hX.grown hD.gr
      clear hD
      simp only [finAct, putAll, valsFrom, Plan.value, Act.put, List.setIfInBounds_toArray, List.set_cons_zero, List.set_cons_succ]
      repeat go_step
      go_ret
      exact ⟨rfl, hX.gw⟩
end Go.Proofs.YtoimglbjepppmaaDoor
