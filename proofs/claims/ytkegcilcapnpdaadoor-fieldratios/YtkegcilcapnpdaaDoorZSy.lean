import Derived.Test.YtkegcilcapnpdaaDoorMz
import Derived.Test.YtkegcilcapnpdaaDoorZJc
namespace Go.Proofs.YtkegcilcapnpdaaDoor
open Go.RowKit Go.Shelf FieldNum

theorem wpList_runS {P : Program} {ops : Array Oper} {Q : Exit → Act → World → Prop} {a : Act} {w w' : World} {rest : List Oper} {o : Oper} {v : Value} (hg : o.guard = none) (he : (execOp a.eval o).run P w = .ok (.value v) w') (h : wpList P ops Q rest (a.put o.dst v) w') : wpList P ops Q (o :: rest) a w :=
  wpList_plain hg fun K hK => by unfold Oper.wp; rw [he]; exact hK _ _ h
theorem exec_negI {o : Oper} {ρ : Operand → Value} {x : Operand} {w : World} (m r : Int) (ho : o.op = .unOp .neg 3 x) (hx : ρ x = .int .i64 m) (hr : IntKind.i64.wrap (-m) = r) : (execOp ρ o).run Tryd.prog w = .ok (.value (.int .i64 r)) w := by
  subst hr
  unfold execOp
  simp only [ho, hx]
  simp [go_sem]
theorem d16_mod8 (n : Nat) : d16 n 0 % 8 = ((n % 8 : Nat) : Int) := by
  rw [d16_zero]
  omega
theorem d16_mod4 (n : Nat) : d16 n 0 % 4 = ((n % 4 : Nat) : Int) := by
  rw [d16_zero]
  omega

/-- the two numbers -/
structure HX (w0 : World) (bX bN x n : Nat) (wr : World) : Prop where
  rx : wr.rangeAt bX 0 (il 16 (d16 x))
  rn : wr.rangeAt bN 0 (il 16 (d16 n))
  tx : wr.there bX 0 16
  tn : wr.there bN 0 16
  ne : bX ≠ bN
  fx : w0.heap.size ≤ bX
  fn : w0.heap.size ≤ bN
  gw : Grown w0 wr
theorem HX.grown {w0 wr w' : World} {bX bN x n : Nat} (s : HX w0 bX bN x n wr) (hg : Grown wr w') : HX w0 bX bN x n w' :=
  ⟨rangeAt_grown s.rx hg, rangeAt_grown s.rn hg, there_grown s.tx hg, there_grown s.tn hg, s.ne, s.fx, s.fn, grown_trans s.gw hg⟩
theorem HX.putX {w0 wr : World} {bX bN x n : Nat} (s : HX w0 bX bN x n wr) (z : Nat) : HX w0 bX bN z n (wr.setCells bX 0 (il 16 (d16 z))) :=
  ⟨World.rangeAt_setCells_same _ _ _ _ (by rw [il_length]; exact s.tx), World.rangeAt_setCells_apart s.rn _ _ _ (.inl s.ne.symm), World.there_setCells s.tx _ _ _, World.there_setCells s.tn _ _ _, s.ne, s.fx, s.fn, grown_setCells s.fx _ _ s.gw⟩
theorem HX.putN {w0 wr : World} {bX bN x n : Nat} (s : HX w0 bX bN x n wr) (z : Nat) : HX w0 bX bN x z (wr.setCells bN 0 (il 16 (d16 z))) :=
  ⟨World.rangeAt_setCells_apart s.rx _ _ _ (.inl s.ne), World.rangeAt_setCells_same _ _ _ _ (by rw [il_length]; exact s.tn), World.there_setCells s.tx _ _ _, World.there_setCells s.tn _ _ _, s.ne, s.fx, s.fn, grown_setCells s.fn _ _ s.gw⟩
theorem HX.meas {w0 wr : World} {bX bN x n : Nat} (s : HX w0 bX bN x n wr) (hx : x < S256) (hn : n < S256) : (es (rdI wr bX) 16 + es (rdI wr bN) 16).toNat = x + n := by
  rw [rd_range s.rx, rd_range s.rn, es_d16 hx, es_d16 hn]
  omega
theorem HX.meas1 {w0 wr : World} {bX bN x n : Nat} (s : HX w0 bX bN x n wr) (hx : x < S256) : (es (rdI wr bX) 16).toNat = x := by
  rw [rd_range s.rx, es_d16 hx]
  omega

set_option maxRecDepth 100000 in
set_option maxHeartbeats 16000000 in
theorem Symbol_r (a : Nat) (ha : a < S256) (w : World) (hGl0 : Gp w) : Calls Tryd.prog 71 #[sn a] w fun e w' => e = .returned (.int .i64 (leg a)) ∧ Grown w w' := by
  have hW := Grown.refl w
  have hGl := hGl0
  go_enter Tryd.func71, Tryd.ntmps71
  repeat ((fail_if_success (with_reducible show Code.wp _ (Code.region _ _ _) _ _ _)); go_step)
  refine wp_plain [.box 45 (il 16 (d16 (a))), .imm (.int .i64 (0))] (by kernel_rfl) (fun β => ?_) (fun β w1 hD => ?_)
  · refine Obs.cons (Ob.box rfl rfl (by kernel_rfl)) ?_
    refine Obs.cons (Ob.imm rfl (fun w => by kernel_rfl)) ?_
    exact Obs.nil
  obtain ⟨hf_b0, hr_b0⟩ := hD.bx 0 _ _ rfl
  replace hf_b0 := Nat.le_trans hW.2.2 hf_b0
  replace hW := grown_trans hW hD.gr
  clear hD
  simp only [finAct, putAll, valsFrom, Plan.value, Act.put, List.setIfInBounds_toArray, List.set_cons_zero, List.set_cons_succ]
  replace hGl := hGl0.grown hW
  generalize β 0 = b0 at *
  repeat ((fail_if_success (with_reducible show Code.wp _ (Code.region _ _ _) _ _ _)); go_step)
  refine wp_plain [.val (sn (a)), .val (sn ((a) % p)), .new 45 16, .put 2 2 (fun _ => il 16 (d16 ((a) % p)))] (by kernel_rfl) (fun β => ?_) (fun β w2 hD => ?_)
  · refine Obs.cons (Ob.load (b0) 0 (il 16 (d16 (a))) rfl rfl (by kernel_rfl) hr_b0 Tryd.underlying45 rfl (by rw [il_length]; exact infoS)) ?_
    refine Obs.cons (Ob.call 87 #[sn (a)] rfl (fun w => by kernel_rfl) (fun w hg => fit_r (a) ha w (hGl.grown hg))) ?_
    refine Obs.cons (Ob.new _ rfl rfl zeroS (by simp [il_length])) ?_
    refine Obs.cons (Ob.put 45 rfl rfl rfl (by kernel_rfl) (by kernel_rfl) (by rw [il_length]; exact infoS) (il_one _ _)) ?_
    exact Obs.nil
  have hn_b0_b1 := ne_of_freshR hr_b0 (hD.nw 2 _ _ rfl).1
  replace hr_b0 := rangeAt_grown hr_b0 hD.gr
  obtain ⟨hf_b1, ht_b1⟩ := hD.nw 2 _ _ rfl
  have hr_b1 : w2.rangeAt (β 2) 0 (il 16 (d16 ((a) % p))) := hD.rg 3 2 2 (fun _ => il 16 (d16 ((a) % p))) rfl
  replace hf_b1 := Nat.le_trans hW.2.2 hf_b1
  replace hW := grown_trans hW hD.gr
  clear hD
  simp only [finAct, putAll, valsFrom, Plan.value, Act.put, List.setIfInBounds_toArray, List.set_cons_zero, List.set_cons_succ]
  replace hGl := hGl0.grown hW
  generalize β (0 + 1 + 1) = b1 at *
  repeat ((fail_if_success (with_reducible show Code.wp _ (Code.region _ _ _) _ _ _)); go_step)
  refine wp_plain [.val (sn (p)), .new 45 16, .put 1 1 (fun _ => il 16 (d16 (p)))] (by kernel_rfl) (fun β => ?_) (fun β w3 hD => ?_)
  · refine Obs.cons (Ob.call 40 #[] rfl (fun w => by kernel_rfl) (fun w hg => P_r p w (hGl.grown hg))) ?_
    refine Obs.cons (Ob.new _ rfl rfl zeroS (by simp [il_length])) ?_
    refine Obs.cons (Ob.put 45 rfl rfl rfl (by kernel_rfl) (by kernel_rfl) (by rw [il_length]; exact infoS) (il_one _ _)) ?_
    exact Obs.nil
  have hn_b0_b2 := ne_of_freshR hr_b0 (hD.nw 1 _ _ rfl).1
  have hn_b1_b2 := ne_of_freshR hr_b1 (hD.nw 1 _ _ rfl).1
  replace hr_b0 := rangeAt_grown hr_b0 hD.gr
  replace hr_b1 := rangeAt_grown hr_b1 hD.gr
  replace ht_b1 := there_grown ht_b1 hD.gr
  obtain ⟨hf_b2, ht_b2⟩ := hD.nw 1 _ _ rfl
  have hr_b2 : w3.rangeAt (β 1) 0 (il 16 (d16 (p))) := hD.rg 2 1 1 (fun _ => il 16 (d16 (p))) rfl
  replace hf_b2 := Nat.le_trans hW.2.2 hf_b2
  replace hW := grown_trans hW hD.gr
  clear hD
  simp only [finAct, putAll, valsFrom, Plan.value, Act.put, List.setIfInBounds_toArray, List.set_cons_zero, List.set_cons_succ]
  replace hGl := hGl0.grown hW
  generalize β (0 + 1) = b2 at *
  repeat ((fail_if_success (with_reducible show Code.wp _ (Code.region _ _ _) _ _ _)); go_step)
  refine wp_plain [.imm (.int .i64 (1))] (by kernel_rfl) (fun β => ?_) (fun β w4 hD => ?_)
  · refine Obs.cons (Ob.imm rfl (fun w => by kernel_rfl)) ?_
    exact Obs.nil
  replace hr_b0 := rangeAt_grown hr_b0 hD.gr
  replace hr_b1 := rangeAt_grown hr_b1 hD.gr
  replace hr_b2 := rangeAt_grown hr_b2 hD.gr
  replace ht_b1 := there_grown ht_b1 hD.gr
  replace ht_b2 := there_grown ht_b2 hD.gr
  replace hW := grown_trans hW hD.gr
  clear hD
  simp only [finAct, putAll, valsFrom, Plan.value, Act.put, List.setIfInBounds_toArray, List.set_cons_zero, List.set_cons_succ]
  replace hGl := hGl0.grown hW
  have hP0 : HX w b1 b2 (a % p) p w4 := ⟨hr_b1, hr_b2, ht_b1, ht_b2, hn_b1_b2, hf_b1, hf_b2, hW⟩
  have HG := Hid.of hGl0
  clear hGl hGl0
  go_wp2
  go_loopw [5] (fun v5 wr => ∃ (x n : Nat) (s : Int), v5 = .int .i64 s ∧ HX w b1 b2 x n wr ∧ YS a x n s) (fun _ wr => (es (rdI wr b1) 16 + es (rdI wr b2) 16).toNat)
  case atStart => exact ⟨_, _, 1, rfl, hP0, YS.start a⟩
  case round =>
    clear hP0
    obtain ⟨x, n, s, rfl, hX, hY⟩ := hrel
    have hx := le_S hY.xp
    have hn := le_S hY.np
    have hme := Hid.of (hX.meas hx hn)
    repeat ((fail_if_success (with_reducible show Code.wp _ (Code.region _ _ _) _ _ _)); go_step)
    by_cases h0 : x = 0
    · refine wp_plain [.val (sn x), .val (.bool true), .imm (.bool true)] (by kernel_rfl) (fun β => ?_) (fun β w2 hD => ?_)
      · refine Obs.cons (Ob.load b1 0 (il 16 (d16 x)) rfl rfl (by kernel_rfl) hX.rx Tryd.underlying45 rfl (by rw [il_length]; exact infoS)) ?_
        refine Obs.cons (Ob.call 70 #[sn x] rfl (fun w => by kernel_rfl) (fun w _ => Zero_b x hx true (decide_eq_true h0) w)) ?_
        refine Obs.cons (Ob.imm rfl (fun w => by kernel_rfl)) ?_
        exact Obs.nil
      replace hX := hX.grown hD.gr
      clear hD
      simp only [finAct, putAll, valsFrom, Plan.value, Act.put, List.setIfInBounds_toArray, List.set_cons_zero, List.set_cons_succ]
      repeat ((fail_if_success (with_reducible show Code.wp _ (Code.region _ _ _) _ _ _)); go_step)
      refine wp_plain [.imm (.bool true)] (by kernel_rfl) (fun β => ?_) (fun β w3 hD => ?_)
      · refine Obs.cons (Ob.imm rfl (fun w => by kernel_rfl)) ?_
        exact Obs.nil
      replace hX := hX.grown hD.gr
      clear hD
      simp only [finAct, putAll, valsFrom, Plan.value, Act.put, List.setIfInBounds_toArray, List.set_cons_zero, List.set_cons_succ]
      repeat ((fail_if_success (with_reducible show Code.wp _ (Code.region _ _ _) _ _ _)); go_step)
      refine wp_plain [.val (sn 1), .new 45 16, .put 1 1 (fun _ => il 16 (d16 1))] (by kernel_rfl) (fun β => ?_) (fun β w4 hD => ?_)
      · refine Obs.cons (Ob.call 39 #[.int .i64 1] rfl (fun w => by kernel_rfl) (fun w _ => Small_r 1 (by decide) 1 rfl w)) ?_
        refine Obs.cons (Ob.new _ rfl rfl zeroS (by simp [il_length])) ?_
        refine Obs.cons (Ob.put 45 rfl rfl rfl (by kernel_rfl) (by kernel_rfl) (by rw [il_length]; exact infoS) (il_one _ _)) ?_
        exact Obs.nil
      have hrO : w4.rangeAt (β 1) 0 (il 16 (d16 1)) := hD.rg 2 1 1 (fun _ => il 16 (d16 1)) rfl
      replace hX := hX.grown hD.gr
      clear hD
      simp only [finAct, putAll, valsFrom, Plan.value, Act.put, List.setIfInBounds_toArray, List.set_cons_zero, List.set_cons_succ]
      generalize β (0 + 1) = bO at *
      repeat ((fail_if_success (with_reducible show Code.wp _ (Code.region _ _ _) _ _ _)); go_step)
      subst h0
      have hdn := hY.done
      by_cases h1 : n = 1
      · rw [if_pos h1] at hdn
        refine wp_plain [.val (sn n), .val (sn 1), .val (.bool true), .imm (.bool false)] (by kernel_rfl) (fun β => ?_) (fun β w5 hD => ?_)
        · refine Obs.cons (Ob.load b2 0 (il 16 (d16 n)) rfl rfl (by kernel_rfl) hX.rn Tryd.underlying45 rfl (by rw [il_length]; exact infoS)) ?_
          refine Obs.cons (Ob.load bO 0 (il 16 (d16 1)) rfl rfl (by kernel_rfl) hrO Tryd.underlying45 rfl (by rw [il_length]; exact infoS)) ?_
          refine Obs.cons (Ob.call 92 #[sn n, sn 1] rfl (fun w => by kernel_rfl) (fun w _ => Same_b n 1 hn one_S true (decide_eq_true h1) w)) ?_
          refine Obs.cons (Ob.imm rfl (fun w => by kernel_rfl)) ?_
          exact Obs.nil
        clear hrO
        replace hX := hX.grown hD.gr
        clear hD
        simp only [finAct, putAll, valsFrom, Plan.value, Act.put, List.setIfInBounds_toArray, List.set_cons_zero, List.set_cons_succ]
        repeat ((fail_if_success (with_reducible show Code.wp _ (Code.region _ _ _) _ _ _)); go_step)
        refine wp_plain [.imm (.int .i64 s), .imm (.int .i64 s)] (by kernel_rfl) (fun β => ?_) (fun β w6 hD => ?_)
        · refine Obs.cons (Ob.imm rfl (fun w => by kernel_rfl)) ?_
          refine Obs.cons (Ob.imm rfl (fun w => by kernel_rfl)) ?_
          exact Obs.nil
        replace hX := hX.grown hD.gr
        clear hD
        simp only [finAct, putAll, valsFrom, Plan.value, Act.put, List.setIfInBounds_toArray, List.set_cons_zero, List.set_cons_succ]
        repeat go_step
        go_ret
        exact ⟨by rw [hdn]; rfl, hX.gw⟩
      · rw [if_neg h1] at hdn
        refine wp_plain [.val (sn n), .val (sn 1), .val (.bool false), .imm (.bool true)] (by kernel_rfl) (fun β => ?_) (fun β w5 hD => ?_)
        · refine Obs.cons (Ob.load b2 0 (il 16 (d16 n)) rfl rfl (by kernel_rfl) hX.rn Tryd.underlying45 rfl (by rw [il_length]; exact infoS)) ?_
          refine Obs.cons (Ob.load bO 0 (il 16 (d16 1)) rfl rfl (by kernel_rfl) hrO Tryd.underlying45 rfl (by rw [il_length]; exact infoS)) ?_
          refine Obs.cons (Ob.call 92 #[sn n, sn 1] rfl (fun w => by kernel_rfl) (fun w _ => Same_b n 1 hn one_S false (decide_eq_false h1) w)) ?_
          refine Obs.cons (Ob.imm rfl (fun w => by kernel_rfl)) ?_
          exact Obs.nil
        clear hrO
        replace hX := hX.grown hD.gr
        clear hD
        simp only [finAct, putAll, valsFrom, Plan.value, Act.put, List.setIfInBounds_toArray, List.set_cons_zero, List.set_cons_succ]
        repeat ((fail_if_success (with_reducible show Code.wp _ (Code.region _ _ _) _ _ _)); go_step)
        refine wp_plain [.imm (.int .i64 0)] (by kernel_rfl) (fun β => ?_) (fun β w6 hD => ?_)
        · refine Obs.cons (Ob.imm rfl (fun w => by kernel_rfl)) ?_
          exact Obs.nil
        replace hX := hX.grown hD.gr
        clear hD
        simp only [finAct, putAll, valsFrom, Plan.value, Act.put, List.setIfInBounds_toArray, List.set_cons_zero, List.set_cons_succ]
        repeat go_step
        go_ret
        exact ⟨by rw [hdn]; rfl, hX.gw⟩
    · refine wp_plain [.val (sn x), .val (.bool false), .imm (.bool false)] (by kernel_rfl) (fun β => ?_) (fun β w2 hD => ?_)
      · refine Obs.cons (Ob.load b1 0 (il 16 (d16 x)) rfl rfl (by kernel_rfl) hX.rx Tryd.underlying45 rfl (by rw [il_length]; exact infoS)) ?_
        refine Obs.cons (Ob.call 70 #[sn x] rfl (fun w => by kernel_rfl) (fun w _ => Zero_b x hx false (decide_eq_false h0) w)) ?_
        refine Obs.cons (Ob.imm rfl (fun w => by kernel_rfl)) ?_
        exact Obs.nil
      replace hX := hX.grown hD.gr
      clear hD
      simp only [finAct, putAll, valsFrom, Plan.value, Act.put, List.setIfInBounds_toArray, List.set_cons_zero, List.set_cons_succ]
      repeat ((fail_if_success (with_reducible show Code.wp _ (Code.region _ _ _) _ _ _)); go_step)
      refine wp_plain [.imm (.bool false)] (by kernel_rfl) (fun β => ?_) (fun β w3 hD => ?_)
      · refine Obs.cons (Ob.imm rfl (fun w => by kernel_rfl)) ?_
        exact Obs.nil
      replace hX := hX.grown hD.gr
      clear hD
      simp only [finAct, putAll, valsFrom, Plan.value, Act.put, List.setIfInBounds_toArray, List.set_cons_zero, List.set_cons_succ]
      have hYY := Hid.of hY
      have hXX := Hid.of hX
      have hh0 := Hid.of h0
      clear hY hX h0
      go_wp2
      go_loopw [5] (fun v5 wr' => ∃ (x' : Nat) (s' : Int), v5 = .int .i64 s' ∧ x' ≠ 0 ∧ x' ≤ x ∧ HX w b1 b2 x' n wr' ∧ YS a x' n s') (fun _ wr' => (es (rdI wr' b1) 16).toNat)
      case atStart => exact ⟨x, s, rfl, hh0.out, Nat.le_refl _, hXX.out, hYY.out⟩
      case round =>
        clear hYY hXX hh0
        obtain ⟨x', s', rfl, h0, hle, hX, hY⟩ := hrel
        have hx' := le_S hY.xp
        have hm1 := Hid.of (hX.meas1 hx')
        repeat ((fail_if_success (with_reducible show Code.wp _ (Code.region _ _ _) _ _ _)); go_step)
        by_cases he : x' % 2 = 0
        · have hxa := cell_i hX.rx (j := 0) (by decide)
          have hod := d16_odd x'
          have hdx := d16_in x' 16 0 (by decide)
          generalize d16 x' 0 = d at hxa hod hdx
          refine wp_plain [.imm (.pointer (some ⟨b1, 0, none⟩)), .val (.int .i64 d), .imm (.int .i64 (d % 2)), .imm (.bool true)] (by kernel_rfl) (fun β => ?_) (fun β w4 hD => ?_)
          · refine Obs.cons (Ob.imm rfl (fun w => exec_idxS 0 (by decide) rfl (by kernel_rfl) (by kernel_rfl))) ?_
            refine Obs.cons (Ob.load1 b1 0 rfl rfl (by kernel_rfl) (block_lt_of_cell hxa) hxa (fun w h => run_loadI w h)) ?_
            refine Obs.cons (Ob.imm rfl (fun w => exec_remZ d 2 _ (by decide) (by omega) rfl (by kernel_rfl) (by kernel_rfl) rfl)) ?_
            refine Obs.cons (Ob.imm rfl (fun w => exec_eqlI rfl (d % 2) 0 (by kernel_rfl) (by kernel_rfl) true (decide_eq_true (by omega)))) ?_
            exact Obs.nil
          replace hX := hX.grown hD.gr
          clear hD
          clear hxa hod hdx
          simp only [finAct, putAll, valsFrom, Plan.value, Act.put, List.setIfInBounds_toArray, List.set_cons_zero, List.set_cons_succ]
          repeat ((fail_if_success (with_reducible show Code.wp _ (Code.region _ _ _) _ _ _)); go_step)
          refine wp_plain_fin [.val (sn x'), .val (sn (x' / 2)), .fin] b1 0 (fun _ => il 16 (d16 (x' / 2))) (by kernel_rfl) (fun β => ?_) (fun β w5 hD => ?_)
          · refine Obs.cons (Ob.load b1 0 (il 16 (d16 x')) rfl rfl (by kernel_rfl) hX.rx Tryd.underlying45 rfl (by rw [il_length]; exact infoS)) ?_
            refine Obs.cons (Ob.call 93 #[sn x'] rfl (fun w => by kernel_rfl) (fun w _ => half_r x' hx' w)) ?_
            refine Obs.cons (Ob.fin rfl (by rw [il_length]; exact hX.tx) rfl (by kernel_rfl) (by kernel_rfl) (by rw [il_length]; exact infoS) (il_one _ _)) ?_
            exact Obs.nil
          replace hX := (hX.grown hD.gr).putX (x' / 2)
          clear hD
          simp only [finAct, putAll, valsFrom, Plan.value, Act.put, List.setIfInBounds_toArray, List.set_cons_zero, List.set_cons_succ]
          generalize w5.setCells b1 0 (il 16 (d16 (x' / 2))) = w6 at *
          repeat ((fail_if_success (with_reducible show Code.wp _ (Code.region _ _ _) _ _ _)); go_step)
          have hxb := cell_i hX.rn (j := 0) (by decide)
          have h8 := d16_mod8 n
          have hdn := d16_in n 16 0 (by decide)
          generalize d16 n 0 = e at hxb h8 hdn
          refine wp_plain [.imm (.pointer (some ⟨b2, 0, none⟩)), .val (.int .i64 e), .imm (.int .i64 (e % 8)), .imm (.int .i64 (e % 8))] (by kernel_rfl) (fun β => ?_) (fun β w7 hD => ?_)
          · refine Obs.cons (Ob.imm rfl (fun w => exec_idxS 0 (by decide) rfl (by kernel_rfl) (by kernel_rfl))) ?_
            refine Obs.cons (Ob.load1 b2 0 rfl rfl (by kernel_rfl) (block_lt_of_cell hxb) hxb (fun w h => run_loadI w h)) ?_
            refine Obs.cons (Ob.imm rfl (fun w => exec_remZ e 8 _ (by decide) (by omega) rfl (by kernel_rfl) (by kernel_rfl) rfl)) ?_
            refine Obs.cons (Ob.imm rfl (fun w => by kernel_rfl)) ?_
            exact Obs.nil
          replace hX := hX.grown hD.gr
          clear hD
          clear hxb hdn
          simp only [finAct, putAll, valsFrom, Plan.value, Act.put, List.setIfInBounds_toArray, List.set_cons_zero, List.set_cons_succ]
          repeat ((fail_if_success (with_reducible show Code.wp _ (Code.region _ _ _) _ _ _)); go_step)
          rw [h8]
          obtain ⟨r, er⟩ : ∃ r, r = n % 8 := ⟨_, rfl⟩
          rw [← er]
          clear h8
          by_cases h3 : r = 3
          · refine wp_plain [.imm (.int .i64 (r : Int)), .imm (.bool true), .imm (.bool true), .skip, .skip, .imm (.bool true)] (by kernel_rfl) (fun β => ?_) (fun β w8 hD => ?_)
            · refine Obs.cons (Ob.imm rfl (fun w => by kernel_rfl)) ?_
              refine Obs.cons (Ob.imm rfl (fun w => exec_eqlI rfl (r : Int) 3 (by kernel_rfl) (by kernel_rfl) true (decide_eq_true (by omega)))) ?_
              refine Obs.cons (Ob.imm rfl (fun w => by kernel_rfl)) ?_
              refine Obs.cons (Ob.skip (by kernel_rfl)) ?_
              refine Obs.cons (Ob.skip (by kernel_rfl)) ?_
              refine Obs.cons (Ob.imm rfl (fun w => by kernel_rfl)) ?_
              exact Obs.nil
            replace hX := hX.grown hD.gr
            clear hD
            simp only [finAct, putAll, valsFrom, Plan.value, Act.put, List.setIfInBounds_toArray, List.set_cons_zero, List.set_cons_succ]
            repeat ((fail_if_success (with_reducible show Code.wp _ (Code.region _ _ _) _ _ _)); go_step)
            refine wp_region_lit ?_
            refine wpList_runS (v := .int .i64 s') (w' := w8) rfl (by kernel_rfl) ?_
            refine wpList_runS (v := .int .i64 (-s')) (w' := w8) rfl (exec_negI s' _ rfl (by kernel_rfl) (by have := hY.sg; rw [IntKind.wrap_i64]; omega)) ?_
            refine wpList_runS (v := .int .i64 (-s')) (w' := w8) rfl (by kernel_rfl) ?_
            apply wpList_nil
            simp only [Act.put, List.setIfInBounds_toArray, List.set_cons_zero, List.set_cons_succ]
            have hY2 := hY.half he
            rw [if_pos (by omega)] at hY2
            have hm2 := Hid.of (hX.meas1 (le_S hY2.xp))
            have hh := Hid.of (And.intro hX (And.intro hY2 (And.intro h0 (And.intro hle he))))
            clear hX hY hY2 h0 hle he
            go_wp2
            refine ⟨⟨_, -s', rfl, by have := hh.out.2.2; omega, by have := hh.out.2.2; omega, hh.out.1, hh.out.2.1⟩, ?_⟩
            rw [hm2.out, hm1.out]
            have := hh.out.2.2
            omega
          · by_cases h5 : r = 5
            · refine wp_plain [.imm (.int .i64 (r : Int)), .imm (.bool false), .imm (.bool false), .imm (.int .i64 (r : Int)), .imm (.bool true), .imm (.bool true)] (by kernel_rfl) (fun β => ?_) (fun β w8 hD => ?_)
              · refine Obs.cons (Ob.imm rfl (fun w => by kernel_rfl)) ?_
                refine Obs.cons (Ob.imm rfl (fun w => exec_eqlI rfl (r : Int) 3 (by kernel_rfl) (by kernel_rfl) false (decide_eq_false (by omega)))) ?_
                refine Obs.cons (Ob.imm rfl (fun w => by kernel_rfl)) ?_
                refine Obs.cons (Ob.imm (by kernel_rfl) (fun w => by kernel_rfl)) ?_
                refine Obs.cons (Ob.imm (by kernel_rfl) (fun w => exec_eqlI rfl (r : Int) 5 (by kernel_rfl) (by kernel_rfl) true (decide_eq_true (by omega)))) ?_
                refine Obs.cons (Ob.imm rfl (fun w => by kernel_rfl)) ?_
                exact Obs.nil
              replace hX := hX.grown hD.gr
              clear hD
              simp only [finAct, putAll, valsFrom, Plan.value, Act.put, List.setIfInBounds_toArray, List.set_cons_zero, List.set_cons_succ]
              repeat ((fail_if_success (with_reducible show Code.wp _ (Code.region _ _ _) _ _ _)); go_step)
              refine wp_region_lit ?_
              refine wpList_runS (v := .int .i64 s') (w' := w8) rfl (by kernel_rfl) ?_
              refine wpList_runS (v := .int .i64 (-s')) (w' := w8) rfl (exec_negI s' _ rfl (by kernel_rfl) (by have := hY.sg; rw [IntKind.wrap_i64]; omega)) ?_
              refine wpList_runS (v := .int .i64 (-s')) (w' := w8) rfl (by kernel_rfl) ?_
              apply wpList_nil
              simp only [Act.put, List.setIfInBounds_toArray, List.set_cons_zero, List.set_cons_succ]
              have hY2 := hY.half he
              rw [if_pos (by omega)] at hY2
              have hm2 := Hid.of (hX.meas1 (le_S hY2.xp))
              have hh := Hid.of (And.intro hX (And.intro hY2 (And.intro h0 (And.intro hle he))))
              clear hX hY hY2 h0 hle he
              go_wp2
              refine ⟨⟨_, -s', rfl, by have := hh.out.2.2; omega, by have := hh.out.2.2; omega, hh.out.1, hh.out.2.1⟩, ?_⟩
              rw [hm2.out, hm1.out]
              have := hh.out.2.2
              omega
            · refine wp_plain [.imm (.int .i64 (r : Int)), .imm (.bool false), .imm (.bool false), .imm (.int .i64 (r : Int)), .imm (.bool false), .imm (.bool false)] (by kernel_rfl) (fun β => ?_) (fun β w8 hD => ?_)
              · refine Obs.cons (Ob.imm rfl (fun w => by kernel_rfl)) ?_
                refine Obs.cons (Ob.imm rfl (fun w => exec_eqlI rfl (r : Int) 3 (by kernel_rfl) (by kernel_rfl) false (decide_eq_false (by omega)))) ?_
                refine Obs.cons (Ob.imm rfl (fun w => by kernel_rfl)) ?_
                refine Obs.cons (Ob.imm (by kernel_rfl) (fun w => by kernel_rfl)) ?_
                refine Obs.cons (Ob.imm (by kernel_rfl) (fun w => exec_eqlI rfl (r : Int) 5 (by kernel_rfl) (by kernel_rfl) false (decide_eq_false (by omega)))) ?_
                refine Obs.cons (Ob.imm rfl (fun w => by kernel_rfl)) ?_
                exact Obs.nil
              replace hX := hX.grown hD.gr
              clear hD
              simp only [finAct, putAll, valsFrom, Plan.value, Act.put, List.setIfInBounds_toArray, List.set_cons_zero, List.set_cons_succ]
              have hY2 := hY.half he
              rw [if_neg (by omega)] at hY2
              have hm2 := Hid.of (hX.meas1 (le_S hY2.xp))
              have hh := Hid.of (And.intro hX (And.intro hY2 (And.intro h0 (And.intro hle he))))
              clear hX hY hY2 h0 hle he
              go_wp2
              refine ⟨⟨_, s', rfl, by have := hh.out.2.2; omega, by have := hh.out.2.2; omega, hh.out.1, hh.out.2.1⟩, ?_⟩
              rw [hm2.out, hm1.out]
              have := hh.out.2.2
              omega
        · have hxa := cell_i hX.rx (j := 0) (by decide)
          have hod := d16_odd x'
          have hdx := d16_in x' 16 0 (by decide)
          generalize d16 x' 0 = d at hxa hod hdx
          refine wp_plain [.imm (.pointer (some ⟨b1, 0, none⟩)), .val (.int .i64 d), .imm (.int .i64 (d % 2)), .imm (.bool false)] (by kernel_rfl) (fun β => ?_) (fun β w4 hD => ?_)
          · refine Obs.cons (Ob.imm rfl (fun w => exec_idxS 0 (by decide) rfl (by kernel_rfl) (by kernel_rfl))) ?_
            refine Obs.cons (Ob.load1 b1 0 rfl rfl (by kernel_rfl) (block_lt_of_cell hxa) hxa (fun w h => run_loadI w h)) ?_
            refine Obs.cons (Ob.imm rfl (fun w => exec_remZ d 2 _ (by decide) (by omega) rfl (by kernel_rfl) (by kernel_rfl) rfl)) ?_
            refine Obs.cons (Ob.imm rfl (fun w => exec_eqlI rfl (d % 2) 0 (by kernel_rfl) (by kernel_rfl) false (decide_eq_false (by omega)))) ?_
            exact Obs.nil
          replace hX := hX.grown hD.gr
          clear hD
          clear hxa hod hdx
          simp only [finAct, putAll, valsFrom, Plan.value, Act.put, List.setIfInBounds_toArray, List.set_cons_zero, List.set_cons_succ]
          repeat ((fail_if_success (with_reducible show Code.wp _ (Code.region _ _ _) _ _ _)); go_step)
          by_cases hb : x' < n
          · refine wp_plain [.val (sn x'), .val (sn n), .val (.bool true), .imm (.bool true)] (by kernel_rfl) (fun β => ?_) (fun β w5 hD => ?_)
            · refine Obs.cons (Ob.load b1 0 (il 16 (d16 x')) rfl rfl (by kernel_rfl) hX.rx Tryd.underlying45 rfl (by rw [il_length]; exact infoS)) ?_
              refine Obs.cons (Ob.load b2 0 (il 16 (d16 n)) rfl rfl (by kernel_rfl) hX.rn Tryd.underlying45 rfl (by rw [il_length]; exact infoS)) ?_
              refine Obs.cons (Ob.call 95 #[sn x', sn n] rfl (fun w => by kernel_rfl) (fun w _ => Below_b x' n hx' hn true (decide_eq_true hb) w)) ?_
              refine Obs.cons (Ob.imm rfl (fun w => by kernel_rfl)) ?_
              exact Obs.nil
            replace hX := hX.grown hD.gr
            clear hD
            simp only [finAct, putAll, valsFrom, Plan.value, Act.put, List.setIfInBounds_toArray, List.set_cons_zero, List.set_cons_succ]
            repeat ((fail_if_success (with_reducible show Code.wp _ (Code.region _ _ _) _ _ _)); go_step)
            refine wp_plain [.imm (.bool true)] (by kernel_rfl) (fun β => ?_) (fun β w6 hD => ?_)
            · refine Obs.cons (Ob.imm rfl (fun w => by kernel_rfl)) ?_
              exact Obs.nil
            replace hX := hX.grown hD.gr
            clear hD
            simp only [finAct, putAll, valsFrom, Plan.value, Act.put, List.setIfInBounds_toArray, List.set_cons_zero, List.set_cons_succ]
            go_wp2_with (with_reducible show wpList _ _ _ ({ dst := _, op := Op.load 45 _, type := _, pos := _, after := _, guard := _ } :: _) _ _; refine Shut.out ?_)
            show wpList _ _ _ _ _ _
            refine wpList_load_mid rfl 45 _ rfl b2 0 rfl (il 16 (d16 n)) _ hX.rn Tryd.underlying45 rfl (by rw [il_length]; exact infoS) ?_
            simp only [Act.put, List.setIfInBounds_toArray, List.set_cons_zero, List.set_cons_succ]
            refine wpList_load_mid rfl 45 _ rfl b1 0 rfl (il 16 (d16 x')) _ hX.rx Tryd.underlying45 rfl (by rw [il_length]; exact infoS) ?_
            simp only [Act.put, List.setIfInBounds_toArray, List.set_cons_zero, List.set_cons_succ]
            refine wpList_store_mid rfl 45 _ _ rfl b1 0 (il 16 (d16 n)).toArray rfl rfl (by rw [List.size_toArray, il_length]; exact hX.tx) (by rw [List.size_toArray, il_length]; exact infoS) (all_oneCell_toArray (il_one _ _)) ?_
            simp only [Act.put]
            replace hX := hX.putX n
            refine wpList_store_mid rfl 45 _ _ rfl b2 0 (il 16 (d16 x')).toArray rfl rfl (by rw [List.size_toArray, il_length]; exact hX.tn) (by rw [List.size_toArray, il_length]; exact infoS) (all_oneCell_toArray (il_one _ _)) ?_
            simp only [Act.put]
            replace hX := hX.putN x'
            apply wpList_nil
            have hW0 := hX.gw
            generalize (w6.setCells b1 0 (il 16 (d16 n)).toArray.toList).setCells b2 0 (il 16 (d16 x')).toArray.toList = w7 at *
            repeat ((fail_if_success (with_reducible show Code.wp _ (Code.region _ _ _) _ _ _)); go_step)
            have hY2 := hY.swap (by omega)
            have hxa := cell_i hX.rx (j := 0) (by decide)
            have hxb := cell_i hX.rn (j := 0) (by decide)
            have h4a := d16_mod4 n
            have h4b := d16_mod4 x'
            have hdx := d16_in n 16 0 (by decide)
            have hex := d16_in x' 16 0 (by decide)
            generalize d16 n 0 = d at hxa h4a hdx
            generalize d16 x' 0 = e at hxb h4b hex
            clear hW0
            by_cases ha4 : n % 4 = 3
            · by_cases hb4 : x' % 4 = 3
              · rw [if_pos ⟨ha4, hb4⟩] at hY2
                refine wp_plain [.imm (.pointer (some ⟨b1, 0, none⟩)), .val (.int .i64 d), .imm (.int .i64 (d % 4)), .imm (.bool true), .imm (.bool true), .imm (.pointer (some ⟨b2, 0, none⟩)), .val (.int .i64 e), .imm (.int .i64 (e % 4)), .imm (.bool true), .imm (.bool true)] (by kernel_rfl) (fun β => ?_) (fun β w8 hD => ?_)
                · refine Obs.cons (Ob.imm rfl (fun w => exec_idxS 0 (by decide) rfl (by kernel_rfl) (by kernel_rfl))) ?_
                  refine Obs.cons (Ob.load1 b1 0 rfl rfl (by kernel_rfl) (block_lt_of_cell hxa) hxa (fun w h => run_loadI w h)) ?_
                  refine Obs.cons (Ob.imm rfl (fun w => exec_remZ d 4 _ (by decide) (by omega) rfl (by kernel_rfl) (by kernel_rfl) rfl)) ?_
                  refine Obs.cons (Ob.imm rfl (fun w => exec_eqlI rfl (d % 4) 3 (by kernel_rfl) (by kernel_rfl) true (decide_eq_true (by omega)))) ?_
                  refine Obs.cons (Ob.imm rfl (fun w => by kernel_rfl)) ?_
                  refine Obs.cons (Ob.imm (by kernel_rfl) (fun w => exec_idxS 0 (by decide) rfl (by kernel_rfl) (by kernel_rfl))) ?_
                  refine Obs.cons (Ob.load1 b2 0 (by kernel_rfl) rfl (by kernel_rfl) (block_lt_of_cell hxb) hxb (fun w h => run_loadI w h)) ?_
                  refine Obs.cons (Ob.imm (by kernel_rfl) (fun w => exec_remZ e 4 _ (by decide) (by omega) rfl (by kernel_rfl) (by kernel_rfl) rfl)) ?_
                  refine Obs.cons (Ob.imm (by kernel_rfl) (fun w => exec_eqlI rfl (e % 4) 3 (by kernel_rfl) (by kernel_rfl) true (decide_eq_true (by omega)))) ?_
                  refine Obs.cons (Ob.imm rfl (fun w => by kernel_rfl)) ?_
                  exact Obs.nil
                replace hX := hX.grown hD.gr
                clear hD
                clear hxa hxb hdx hex
                simp only [finAct, putAll, valsFrom, Plan.value, Act.put, List.setIfInBounds_toArray, List.set_cons_zero, List.set_cons_succ]
                repeat ((fail_if_success (with_reducible show Code.wp _ (Code.region _ _ _) _ _ _)); go_step)
                refine wp_region_lit ?_
                refine wpList_runS (v := .int .i64 s') (w' := w8) rfl (by kernel_rfl) ?_
                refine wpList_runS (v := .int .i64 (-s')) (w' := w8) rfl (exec_negI s' _ rfl (by kernel_rfl) (by have := hY.sg; rw [IntKind.wrap_i64]; omega)) ?_
                refine wpList_runS (v := .int .i64 (-s')) (w' := w8) rfl (by kernel_rfl) ?_
                apply wpList_nil
                simp only [Act.put, List.setIfInBounds_toArray, List.set_cons_zero, List.set_cons_succ]
                repeat ((fail_if_success (with_reducible show Code.wp _ (Code.region _ _ _) _ _ _)); go_step)
                refine wp_plain_fin [.val (sn n), .val (sn x'), .val (sn (n - x')), .fin] b1 0 (fun _ => il 16 (d16 (n - x'))) (by kernel_rfl) (fun β => ?_) (fun β w11 hD => ?_)
                · refine Obs.cons (Ob.load b1 0 (il 16 (d16 n)) rfl rfl (by kernel_rfl) hX.rx Tryd.underlying45 rfl (by rw [il_length]; exact infoS)) ?_
                  refine Obs.cons (Ob.load b2 0 (il 16 (d16 x')) rfl rfl (by kernel_rfl) hX.rn Tryd.underlying45 rfl (by rw [il_length]; exact infoS)) ?_
                  refine Obs.cons (Ob.call 90 #[sn n, sn x'] rfl (fun w => by kernel_rfl) (fun w _ => less_r n x' (hn) (by omega) w)) ?_
                  refine Obs.cons (Ob.fin rfl (by rw [il_length]; exact hX.tx) rfl (by kernel_rfl) (by kernel_rfl) (by rw [il_length]; exact infoS) (il_one _ _)) ?_
                  exact Obs.nil
                replace hX := (hX.grown hD.gr).putX (n - x')
                clear hD
                simp only [finAct, putAll, valsFrom, Plan.value, Act.put, List.setIfInBounds_toArray, List.set_cons_zero, List.set_cons_succ]
                generalize w11.setCells b1 0 (il 16 (d16 (n - x'))) = w12 at *
                have hY3 := (hY2.less (by omega))
                have hm2 := Hid.of (hX.meas (le_S hY3.xp) (le_S hY3.np))
                have hh := Hid.of (And.intro hX (And.intro hY3 (And.intro h0 (And.intro hle (And.intro hb hY.no)))))
                clear hX hY hY3 h0 hle hb
                go_wp2
                refine ⟨⟨_, _, -s', rfl, hh.out.1, hh.out.2.1⟩, ?_⟩
                rw [hm2.out, hme.out]
                have := hh.out.2.2
                omega
              · rw [if_neg (fun q => hb4 q.2)] at hY2
                refine wp_plain [.imm (.pointer (some ⟨b1, 0, none⟩)), .val (.int .i64 d), .imm (.int .i64 (d % 4)), .imm (.bool true), .imm (.bool true), .imm (.pointer (some ⟨b2, 0, none⟩)), .val (.int .i64 e), .imm (.int .i64 (e % 4)), .imm (.bool false), .imm (.bool false)] (by kernel_rfl) (fun β => ?_) (fun β w8 hD => ?_)
                · refine Obs.cons (Ob.imm rfl (fun w => exec_idxS 0 (by decide) rfl (by kernel_rfl) (by kernel_rfl))) ?_
                  refine Obs.cons (Ob.load1 b1 0 rfl rfl (by kernel_rfl) (block_lt_of_cell hxa) hxa (fun w h => run_loadI w h)) ?_
                  refine Obs.cons (Ob.imm rfl (fun w => exec_remZ d 4 _ (by decide) (by omega) rfl (by kernel_rfl) (by kernel_rfl) rfl)) ?_
                  refine Obs.cons (Ob.imm rfl (fun w => exec_eqlI rfl (d % 4) 3 (by kernel_rfl) (by kernel_rfl) true (decide_eq_true (by omega)))) ?_
                  refine Obs.cons (Ob.imm rfl (fun w => by kernel_rfl)) ?_
                  refine Obs.cons (Ob.imm (by kernel_rfl) (fun w => exec_idxS 0 (by decide) rfl (by kernel_rfl) (by kernel_rfl))) ?_
                  refine Obs.cons (Ob.load1 b2 0 (by kernel_rfl) rfl (by kernel_rfl) (block_lt_of_cell hxb) hxb (fun w h => run_loadI w h)) ?_
                  refine Obs.cons (Ob.imm (by kernel_rfl) (fun w => exec_remZ e 4 _ (by decide) (by omega) rfl (by kernel_rfl) (by kernel_rfl) rfl)) ?_
                  refine Obs.cons (Ob.imm (by kernel_rfl) (fun w => exec_eqlI rfl (e % 4) 3 (by kernel_rfl) (by kernel_rfl) false (decide_eq_false (by omega)))) ?_
                  refine Obs.cons (Ob.imm rfl (fun w => by kernel_rfl)) ?_
                  exact Obs.nil
                replace hX := hX.grown hD.gr
                clear hD
                clear hxa hxb hdx hex
                simp only [finAct, putAll, valsFrom, Plan.value, Act.put, List.setIfInBounds_toArray, List.set_cons_zero, List.set_cons_succ]
                repeat ((fail_if_success (with_reducible show Code.wp _ (Code.region _ _ _) _ _ _)); go_step)
                refine wp_plain_fin [.val (sn n), .val (sn x'), .val (sn (n - x')), .fin] b1 0 (fun _ => il 16 (d16 (n - x'))) (by kernel_rfl) (fun β => ?_) (fun β w11 hD => ?_)
                · refine Obs.cons (Ob.load b1 0 (il 16 (d16 n)) rfl rfl (by kernel_rfl) hX.rx Tryd.underlying45 rfl (by rw [il_length]; exact infoS)) ?_
                  refine Obs.cons (Ob.load b2 0 (il 16 (d16 x')) rfl rfl (by kernel_rfl) hX.rn Tryd.underlying45 rfl (by rw [il_length]; exact infoS)) ?_
                  refine Obs.cons (Ob.call 90 #[sn n, sn x'] rfl (fun w => by kernel_rfl) (fun w _ => less_r n x' (hn) (by omega) w)) ?_
                  refine Obs.cons (Ob.fin rfl (by rw [il_length]; exact hX.tx) rfl (by kernel_rfl) (by kernel_rfl) (by rw [il_length]; exact infoS) (il_one _ _)) ?_
                  exact Obs.nil
                replace hX := (hX.grown hD.gr).putX (n - x')
                clear hD
                simp only [finAct, putAll, valsFrom, Plan.value, Act.put, List.setIfInBounds_toArray, List.set_cons_zero, List.set_cons_succ]
                generalize w11.setCells b1 0 (il 16 (d16 (n - x'))) = w12 at *
                have hY3 := (hY2.less (by omega))
                have hm2 := Hid.of (hX.meas (le_S hY3.xp) (le_S hY3.np))
                have hh := Hid.of (And.intro hX (And.intro hY3 (And.intro h0 (And.intro hle (And.intro hb hY.no)))))
                clear hX hY hY3 h0 hle hb
                go_wp2
                refine ⟨⟨_, _, s', rfl, hh.out.1, hh.out.2.1⟩, ?_⟩
                rw [hm2.out, hme.out]
                have := hh.out.2.2
                omega
            · rw [if_neg (fun q => ha4 q.1)] at hY2
              refine wp_plain [.imm (.pointer (some ⟨b1, 0, none⟩)), .val (.int .i64 d), .imm (.int .i64 (d % 4)), .imm (.bool false), .imm (.bool false), .skip, .skip, .skip, .skip, .imm (.bool false)] (by kernel_rfl) (fun β => ?_) (fun β w8 hD => ?_)
              · refine Obs.cons (Ob.imm rfl (fun w => exec_idxS 0 (by decide) rfl (by kernel_rfl) (by kernel_rfl))) ?_
                refine Obs.cons (Ob.load1 b1 0 rfl rfl (by kernel_rfl) (block_lt_of_cell hxa) hxa (fun w h => run_loadI w h)) ?_
                refine Obs.cons (Ob.imm rfl (fun w => exec_remZ d 4 _ (by decide) (by omega) rfl (by kernel_rfl) (by kernel_rfl) rfl)) ?_
                refine Obs.cons (Ob.imm rfl (fun w => exec_eqlI rfl (d % 4) 3 (by kernel_rfl) (by kernel_rfl) false (decide_eq_false (by omega)))) ?_
                refine Obs.cons (Ob.imm rfl (fun w => by kernel_rfl)) ?_
                refine Obs.cons (Ob.skip (by kernel_rfl)) ?_
                refine Obs.cons (Ob.skip (by kernel_rfl)) ?_
                refine Obs.cons (Ob.skip (by kernel_rfl)) ?_
                refine Obs.cons (Ob.skip (by kernel_rfl)) ?_
                refine Obs.cons (Ob.imm rfl (fun w => by kernel_rfl)) ?_
                exact Obs.nil
              replace hX := hX.grown hD.gr
              clear hD
              clear hxa hxb hdx hex
              simp only [finAct, putAll, valsFrom, Plan.value, Act.put, List.setIfInBounds_toArray, List.set_cons_zero, List.set_cons_succ]
              repeat ((fail_if_success (with_reducible show Code.wp _ (Code.region _ _ _) _ _ _)); go_step)
              refine wp_plain_fin [.val (sn n), .val (sn x'), .val (sn (n - x')), .fin] b1 0 (fun _ => il 16 (d16 (n - x'))) (by kernel_rfl) (fun β => ?_) (fun β w11 hD => ?_)
              · refine Obs.cons (Ob.load b1 0 (il 16 (d16 n)) rfl rfl (by kernel_rfl) hX.rx Tryd.underlying45 rfl (by rw [il_length]; exact infoS)) ?_
                refine Obs.cons (Ob.load b2 0 (il 16 (d16 x')) rfl rfl (by kernel_rfl) hX.rn Tryd.underlying45 rfl (by rw [il_length]; exact infoS)) ?_
                refine Obs.cons (Ob.call 90 #[sn n, sn x'] rfl (fun w => by kernel_rfl) (fun w _ => less_r n x' (hn) (by omega) w)) ?_
                refine Obs.cons (Ob.fin rfl (by rw [il_length]; exact hX.tx) rfl (by kernel_rfl) (by kernel_rfl) (by rw [il_length]; exact infoS) (il_one _ _)) ?_
                exact Obs.nil
              replace hX := (hX.grown hD.gr).putX (n - x')
              clear hD
              simp only [finAct, putAll, valsFrom, Plan.value, Act.put, List.setIfInBounds_toArray, List.set_cons_zero, List.set_cons_succ]
              generalize w11.setCells b1 0 (il 16 (d16 (n - x'))) = w12 at *
              have hY3 := (hY2.less (by omega))
              have hm2 := Hid.of (hX.meas (le_S hY3.xp) (le_S hY3.np))
              have hh := Hid.of (And.intro hX (And.intro hY3 (And.intro h0 (And.intro hle (And.intro hb hY.no)))))
              clear hX hY hY3 h0 hle hb
              go_wp2
              refine ⟨⟨_, _, s', rfl, hh.out.1, hh.out.2.1⟩, ?_⟩
              rw [hm2.out, hme.out]
              have := hh.out.2.2
              omega
          · refine wp_plain [.val (sn x'), .val (sn n), .val (.bool false), .imm (.bool false)] (by kernel_rfl) (fun β => ?_) (fun β w5 hD => ?_)
            · refine Obs.cons (Ob.load b1 0 (il 16 (d16 x')) rfl rfl (by kernel_rfl) hX.rx Tryd.underlying45 rfl (by rw [il_length]; exact infoS)) ?_
              refine Obs.cons (Ob.load b2 0 (il 16 (d16 n)) rfl rfl (by kernel_rfl) hX.rn Tryd.underlying45 rfl (by rw [il_length]; exact infoS)) ?_
              refine Obs.cons (Ob.call 95 #[sn x', sn n] rfl (fun w => by kernel_rfl) (fun w _ => Below_b x' n hx' hn false (decide_eq_false hb) w)) ?_
              refine Obs.cons (Ob.imm rfl (fun w => by kernel_rfl)) ?_
              exact Obs.nil
            replace hX := hX.grown hD.gr
            clear hD
            simp only [finAct, putAll, valsFrom, Plan.value, Act.put, List.setIfInBounds_toArray, List.set_cons_zero, List.set_cons_succ]
            repeat ((fail_if_success (with_reducible show Code.wp _ (Code.region _ _ _) _ _ _)); go_step)
            refine wp_plain [.imm (.bool false)] (by kernel_rfl) (fun β => ?_) (fun β w6 hD => ?_)
            · refine Obs.cons (Ob.imm rfl (fun w => by kernel_rfl)) ?_
              exact Obs.nil
            replace hX := hX.grown hD.gr
            clear hD
            simp only [finAct, putAll, valsFrom, Plan.value, Act.put, List.setIfInBounds_toArray, List.set_cons_zero, List.set_cons_succ]
            repeat ((fail_if_success (with_reducible show Code.wp _ (Code.region _ _ _) _ _ _)); go_step)
            refine wp_plain_fin [.val (sn x'), .val (sn n), .val (sn (x' - n)), .fin] b1 0 (fun _ => il 16 (d16 (x' - n))) (by kernel_rfl) (fun β => ?_) (fun β w11 hD => ?_)
            · refine Obs.cons (Ob.load b1 0 (il 16 (d16 x')) rfl rfl (by kernel_rfl) hX.rx Tryd.underlying45 rfl (by rw [il_length]; exact infoS)) ?_
              refine Obs.cons (Ob.load b2 0 (il 16 (d16 n)) rfl rfl (by kernel_rfl) hX.rn Tryd.underlying45 rfl (by rw [il_length]; exact infoS)) ?_
              refine Obs.cons (Ob.call 90 #[sn x', sn n] rfl (fun w => by kernel_rfl) (fun w _ => less_r x' n (hx') (by omega) w)) ?_
              refine Obs.cons (Ob.fin rfl (by rw [il_length]; exact hX.tx) rfl (by kernel_rfl) (by kernel_rfl) (by rw [il_length]; exact infoS) (il_one _ _)) ?_
              exact Obs.nil
            replace hX := (hX.grown hD.gr).putX (x' - n)
            clear hD
            simp only [finAct, putAll, valsFrom, Plan.value, Act.put, List.setIfInBounds_toArray, List.set_cons_zero, List.set_cons_succ]
            generalize w11.setCells b1 0 (il 16 (d16 (x' - n))) = w12 at *
            have hY3 := hY.less (by omega)
            have hm2 := Hid.of (hX.meas (le_S hY3.xp) (le_S hY3.np))
            have hh := Hid.of (And.intro hX (And.intro hY3 (And.intro h0 (And.intro hle (And.intro hb hY.no)))))
            clear hX hY hY3 h0 hle hb
            go_wp2
            refine ⟨⟨_, _, s', rfl, hh.out.1, hh.out.2.1⟩, ?_⟩
            rw [hm2.out, hme.out]
            have := hh.out.2.2
            omega

end Go.Proofs.YtkegcilcapnpdaaDoor
