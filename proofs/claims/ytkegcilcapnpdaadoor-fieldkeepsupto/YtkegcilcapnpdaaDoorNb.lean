import Derived.Test.YtkegcilcapnpdaaDoorMz
import Derived.Test.YtkegcilcapnpdaaDoorNa
namespace Go.Proofs.YtkegcilcapnpdaaDoor
open Go.RowKit Go.Shelf FieldNum

theorem wpList_runS {P : Program} {ops : Array Oper} {Q : Exit → Act → World → Prop} {a : Act} {w w' : World} {rest : List Oper} {o : Oper} {v : Value} (hg : o.guard = none) (he : (execOp a.eval o).run P w = .ok (.value v) w') (h : wpList P ops Q rest (a.put o.dst v) w') : wpList P ops Q (o :: rest) a w :=
  wpList_plain hg fun K hK => by unfold Oper.wp; rw [he]; exact hK _ _ h
theorem exec_negI {o : Oper} {ρ : Operand → Value} {x : Operand} {w : World} (m r : Int) (ho : o.op = .unOp .neg 3 x) (hx : ρ x = .int .i64 m) (hr : IntKind.i64.wrap (-m) = r) : (execOp ρ o).run Tryd.prog w = .ok (.value (.int .i64 r)) w := by
  subst hr
  unfold execOp
  simp only [ho, hx]
  simp [go_sem]
theorem d16_mod8 (n : Nat) : d16 n 0 % 8 = ((n % 8 : Nat) : Int) := by
  rw [d16_zero]
  omega
theorem d16_mod4 (n : Nat) : d16 n 0 % 4 = ((n % 4 : Nat) : Int) := by
  rw [d16_zero]
  omega

/-- the two numbers -/
structure HX (w0 : World) (bX bN x n : Nat) (wr : World) : Prop where
  rx : wr.rangeAt bX 0 (il 16 (d16 x))
  rn : wr.rangeAt bN 0 (il 16 (d16 n))
  tx : wr.there bX 0 16
  tn : wr.there bN 0 16
  ne : bX ≠ bN
  fx : w0.heap.size ≤ bX
  fn : w0.heap.size ≤ bN
  gw : Grown w0 wr
theorem HX.grown {w0 wr w' : World} {bX bN x n : Nat} (s : HX w0 bX bN x n wr) (hg : Grown wr w') : HX w0 bX bN x n w' :=
  ⟨rangeAt_grown s.rx hg, rangeAt_grown s.rn hg, there_grown s.tx hg, there_grown s.tn hg, s.ne, s.fx, s.fn, grown_trans s.gw hg⟩
theorem HX.putX {w0 wr : World} {bX bN x n : Nat} (s : HX w0 bX bN x n wr) (z : Nat) : HX w0 bX bN z n (wr.setCells bX 0 (il 16 (d16 z))) :=
  ⟨World.rangeAt_setCells_same _ _ _ _ (by rw [il_length]; exact s.tx), World.rangeAt_setCells_apart s.rn _ _ _ (.inl s.ne.symm), World.there_setCells s.tx _ _ _, World.there_setCells s.tn _ _ _, s.ne, s.fx, s.fn, grown_setCells s.fx _ _ s.gw⟩
theorem HX.putN {w0 wr : World} {bX bN x n : Nat} (s : HX w0 bX bN x n wr) (z : Nat) : HX w0 bX bN x z (wr.setCells bN 0 (il 16 (d16 z))) :=
  ⟨World.rangeAt_setCells_apart s.rx _ _ _ (.inl s.ne), World.rangeAt_setCells_same _ _ _ _ (by rw [il_length]; exact s.tn), World.there_setCells s.tx _ _ _, World.there_setCells s.tn _ _ _, s.ne, s.fx, s.fn, grown_setCells s.fn _ _ s.gw⟩
theorem HX.meas {w0 wr : World} {bX bN x n : Nat} (s : HX w0 bX bN x n wr) (hx : x < S256) (hn : n < S256) : (es (rdI wr bX) 16 + es (rdI wr bN) 16).toNat = x + n := by
  rw [rd_range s.rx, rd_range s.rn, es_d16 hx, es_d16 hn]
  omega
theorem HX.meas1 {w0 wr : World} {bX bN x n : Nat} (s : HX w0 bX bN x n wr) (hx : x < S256) : (es (rdI wr bX) 16).toNat = x := by
  rw [rd_range s.rx, es_d16 hx]
  omega

set_option maxRecDepth 100000 in
set_option maxHeartbeats 16000000 in
theorem Symbol_r (a : Nat) (ha : a < S256) (w : World) (hGl0 : Gp w) : Calls Tryd.prog 71 #[sn a] w fun e w' => e = .returned (.int .i64 (leg a)) ∧ Grown w w' := by
  have hW := Grown.refl w
  have hGl := hGl0
  go_enter Tryd.func71, Tryd.ntmps71
  repeat ((fail_if_success (with_reducible show Code.wp _ (Code.region _ _ _) _ _ _)); go_step)
  refine wp_plain [.box 45 (il 16 (d16 (a))), .imm (.int .i64 (0))] (by kernel_rfl) (fun β => ?_) (fun β w1 hD => ?_)
  · refine Obs.cons (Ob.box rfl rfl (by kernel_rfl)) ?_
    refine Obs.cons (Ob.imm rfl (fun w => by kernel_rfl)) ?_
    exact Obs.nil
  obtain ⟨hf_b0, hr_b0⟩ := hD.bx 0 _ _ rfl
  replace hf_b0 := Nat.le_trans hW.2.2 hf_b0
  replace hW := grown_trans hW hD.gr
  clear hD
  simp only [finAct, putAll, valsFrom, Plan.value, Act.put, List.setIfInBounds_toArray, List.set_cons_zero, List.set_cons_succ]
  replace hGl := hGl0.grown hW
  generalize β 0 = b0 at *
  repeat ((fail_if_success (with_reducible show Code.wp _ (Code.region _ _ _) _ _ _)); go_step)
  refine wp_plain [.val (sn (a)), .val (sn ((a) % p)), .new 45 16, .put 2 2 (fun _ => il 16 (d16 ((a) % p)))] (by kernel_rfl) (fun β => ?_) (fun β w2 hD => ?_)
  · refine Obs.cons (Ob.load (b0) 0 (il 16 (d16 (a))) rfl rfl (by kernel_rfl) hr_b0 Tryd.underlying45 rfl (by rw [il_length]; exact infoS)) ?_
    refine Obs.cons (Ob.call 87 #[sn (a)] rfl (fun w => by kernel_rfl) (fun w hg => fit_r (a) ha w (hGl.grown hg))) ?_
    refine Obs.cons (Ob.new _ rfl rfl zeroS (by simp [il_length])) ?_
    refine Obs.cons (Ob.put 45 rfl rfl rfl (by kernel_rfl) (by kernel_rfl) (by rw [il_length]; exact infoS) (il_one _ _)) ?_
    exact Obs.nil
  have hn_b0_b1 := ne_of_freshR hr_b0 (hD.nw 2 _ _ rfl).1
  replace hr_b0 := rangeAt_grown hr_b0 hD.gr
  obtain ⟨hf_b1, ht_b1⟩ := hD.nw 2 _ _ rfl
  have hr_b1 : w2.rangeAt (β 2) 0 (il 16 (d16 ((a) % p))) := hD.rg 3 2 2 (fun _ => il 16 (d16 ((a) % p))) rfl
  replace hf_b1 := Nat.le_trans hW.2.2 hf_b1
  replace hW := grown_trans hW hD.gr
  clear hD
  simp only [finAct, putAll, valsFrom, Plan.value, Act.put, List.setIfInBounds_toArray, List.set_cons_zero, List.set_cons_succ]
  replace hGl := hGl0.grown hW
  generalize β (0 + 1 + 1) = b1 at *
  repeat ((fail_if_success (with_reducible show Code.wp _ (Code.region _ _ _) _ _ _)); go_step)
  refine wp_plain [.val (sn (p)), .new 45 16, .put 1 1 (fun _ => il 16 (d16 (p)))] (by kernel_rfl) (fun β => ?_) (fun β w3 hD => ?_)
  · refine Obs.cons (Ob.call 40 #[] rfl (fun w => by kernel_rfl) (fun w hg => P_r p w (hGl.grown hg))) ?_
    refine Obs.cons (Ob.new _ rfl rfl zeroS (by simp [il_length])) ?_
    refine Obs.cons (Ob.put 45 rfl rfl rfl (by kernel_rfl) (by kernel_rfl) (by rw [il_length]; exact infoS) (il_one _ _)) ?_
    exact Obs.nil
  have hn_b0_b2 := ne_of_freshR hr_b0 (hD.nw 1 _ _ rfl).1
  have hn_b1_b2 := ne_of_freshR hr_b1 (hD.nw 1 _ _ rfl).1
  replace hr_b0 := rangeAt_grown hr_b0 hD.gr
  replace hr_b1 := rangeAt_grown hr_b1 hD.gr
  replace ht_b1 := there_grown ht_b1 hD.gr
  obtain ⟨hf_b2, ht_b2⟩ := hD.nw 1 _ _ rfl
  have hr_b2 : w3.rangeAt (β 1) 0 (il 16 (d16 (p))) := hD.rg 2 1 1 (fun _ => il 16 (d16 (p))) rfl
  replace hf_b2 := Nat.le_trans hW.2.2 hf_b2
  replace hW := grown_trans hW hD.gr
  clear hD
  simp only [finAct, putAll, valsFrom, Plan.value, Act.put, List.setIfInBounds_toArray, List.set_cons_zero, List.set_cons_succ]
  replace hGl := hGl0.grown hW
  generalize β (0 + 1) = b2 at *
  repeat ((fail_if_success (with_reducible show Code.wp _ (Code.region _ _ _) _ _ _)); go_step)
  refine wp_plain [.imm (.int .i64 (1))] (by kernel_rfl) (fun β => ?_) (fun β w4 hD => ?_)
  · refine Obs.cons (Ob.imm rfl (fun w => by kernel_rfl)) ?_
    exact Obs.nil
  replace hr_b0 := rangeAt_grown hr_b0 hD.gr
  replace hr_b1 := rangeAt_grown hr_b1 hD.gr
  replace hr_b2 := rangeAt_grown hr_b2 hD.gr
  replace ht_b1 := there_grown ht_b1 hD.gr
  replace ht_b2 := there_grown ht_b2 hD.gr
  replace hW := grown_trans hW hD.gr
  clear hD
  simp only [finAct, putAll, valsFrom, Plan.value, Act.put, List.setIfInBounds_toArray, List.set_cons_zero, List.set_cons_succ]
  replace hGl := hGl0.grown hW
  have hP0 : HX w b1 b2 (a % p) p w4 := ⟨hr_b1, hr_b2, ht_b1, ht_b2, hn_b1_b2, hf_b1, hf_b2, hW⟩
  have HG := Hid.of hGl0
  clear hGl hGl0
  go_wp2
  go_loopw [5] (fun v5 wr => ∃ (x n : Nat) (s : Int), v5 = .int .i64 s ∧ HX w b1 b2 x n wr ∧ YS a x n s) (fun _ wr => (es (rdI wr b1) 16 + es (rdI wr b2) 16).toNat)
  case atStart => exact ⟨_, _, 1, rfl, hP0, YS.start a⟩
  case round =>
    clear hP0
    obtain ⟨x, n, s, rfl, hX, hY⟩ := hrel
    have hx := le_S hY.xp
    have hn := le_S hY.np
    have hme := Hid.of (hX.meas hx hn)
    repeat ((fail_if_success (with_reducible show Code.wp _ (Code.region _ _ _) _ _ _)); go_step)
    by_cases h0 : x = 0
    · refine wp_plain [.val (sn x), .val (.bool true), .imm (.bool true)] (by kernel_rfl) (fun β => ?_) (fun β w2 hD => ?_)
      · refine Obs.cons (Ob.load b1 0 (il 16 (d16 x)) rfl rfl (by kernel_rfl) hX.rx Tryd.underlying45 rfl (by rw [il_length]; exact infoS)) ?_
        refine Obs.cons (Ob.call 70 #[sn x] rfl (fun w => by kernel_rfl) (fun w _ => Zero_b x hx true (decide_eq_true h0) w)) ?_
        refine Obs.cons (Ob.imm rfl (fun w => by kernel_rfl)) ?_
        exact Obs.nil
      replace hX := hX.grown hD.gr
      clear hD
      simp only [finAct, putAll, valsFrom, Plan.value, Act.put, List.setIfInBounds_toArray, List.set_cons_zero, List.set_cons_succ]
      repeat ((fail_if_success (with_reducible show Code.wp _ (Code.region _ _ _) _ _ _)); go_step)
      refine wp_plain [.imm (.bool true)] (by kernel_rfl) (fun β => ?_) (fun β w3 hD => ?_)
      · refine Obs.cons (Ob.imm rfl (fun w => by kernel_rfl)) ?_
        exact Obs.nil
      replace hX := hX.grown hD.gr
      clear hD
      simp only [finAct, putAll, valsFrom, Plan.value, Act.put, List.setIfInBounds_toArray, List.set_cons_zero, List.set_cons_succ]
      repeat ((fail_if_success (with_reducible show Code.wp _ (Code.region _ _ _) _ _ _)); go_step)
      refine wp_plain [.val (sn 1), .new 45 16, .put 1 1 (fun _ => il 16 (d16 1))] (by kernel_rfl) (fun β => ?_) (fun β w4 hD => ?_)
      · refine Obs.cons (Ob.call 39 #[.int .i64 1] rfl (fun w => by kernel_rfl) (fun w _ => Small_r 1 (by decide) 1 rfl w)) ?_
        refine Obs.cons (Ob.new _ rfl rfl zeroS (by simp [il_length])) ?_
        refine Obs.cons (Ob.put 45 rfl rfl rfl (by kernel_rfl) (by kernel_rfl) (by rw [il_length]; exact infoS) (il_one _ _)) ?_
        exact Obs.nil
      have hrO : w4.rangeAt (β 1) 0 (il 16 (d16 1)) := hD.rg 2 1 1 (fun _ => il 16 (d16 1)) rfl
      replace hX := hX.grown hD.gr
      clear hD
      simp only [finAct, putAll, valsFrom, Plan.value, Act.put, List.setIfInBounds_toArray, List.set_cons_zero, List.set_cons_succ]
      generalize β (0 + 1) = bO at *
      repeat ((fail_if_success (with_reducible show Code.wp _ (Code.region _ _ _) _ _ _)); go_step)
      subst h0
      have hdn := hY.done
      by_cases h1 : n = 1
      · rw [if_pos h1] at hdn
        refine wp_plain [.val (sn n), .val (sn 1), .val (.bool true), .imm (.bool false)] (by kernel_rfl) (fun β => ?_) (fun β w5 hD => ?_)
        · refine Obs.cons (Ob.load b2 0 (il 16 (d16 n)) rfl rfl (by kernel_rfl) hX.rn Tryd.underlying45 rfl (by rw [il_length]; exact infoS)) ?_
          refine Obs.cons (Ob.load bO 0 (il 16 (d16 1)) rfl rfl (by kernel_rfl) hrO Tryd.underlying45 rfl (by rw [il_length]; exact infoS)) ?_
          refine Obs.cons (Ob.call 92 #[sn n, sn 1] rfl (fun w => by kernel_rfl) (fun w _ => Same_b n 1 hn one_S true (decide_eq_true h1) w)) ?_
          refine Obs.cons (Ob.imm rfl (fun w => by kernel_rfl)) ?_
          exact Obs.nil
        clear hrO
        replace hX := hX.grown hD.gr
        clear hD
        simp only [finAct, putAll, valsFrom, Plan.value, Act.put, List.setIfInBounds_toArray, List.set_cons_zero, List.set_cons_succ]
        repeat ((fail_if_success (with_reducible show Code.wp _ (Code.region _ _ _) _ _ _)); go_step)
        refine wp_plain [.imm (.int .i64 s), .imm (.int .i64 s)] (by kernel_rfl) (fun β => ?_) (fun β w6 hD => ?_)
        · refine Obs.cons (Ob.imm rfl (fun w => by kernel_rfl)) ?_
          refine Obs.cons (Ob.imm rfl (fun w => by kernel_rfl)) ?_
          exact Obs.nil
        replace hX := hX.grown hD.gr
        clear hD
        simp only [finAct, putAll, valsFrom, Plan.value, Act.put, List.setIfInBounds_toArray, List.set_cons_zero, List.set_cons_succ]
        repeat go_step
        go_ret
        exact ⟨by rw [hdn]; rfl, hX.gw⟩
      · rw [if_neg h1] at hdn
        refine wp_plain [.val (sn n), .val (sn 1), .val (.bool false), .imm (.bool true)] (by kernel_rfl) (fun β => ?_) (fun β w5 hD => ?_)
        · refine Obs.cons (Ob.load b2 0 (il 16 (d16 n)) rfl rfl (by kernel_rfl) hX.rn Tryd.underlying45 rfl (by rw [il_length]; exact infoS)) ?_
          refine Obs.cons (Ob.load bO 0 (il 16 (d16 1)) rfl rfl (by kernel_rfl) hrO Tryd.underlying45 rfl (by rw [il_length]; exact infoS)) ?_
          refine Obs.cons (Ob.call 92 #[sn n, sn 1] rfl (fun w => by kernel_rfl) (fun w _ => Same_b n 1 hn one_S false (decide_eq_false h1) w)) ?_
          refine Obs.cons (Ob.imm rfl (fun w => by kernel_rfl)) ?_
          exact Obs.nil
        clear hrO
        replace hX := hX.grown hD.gr
        clear hD
        simp only [finAct, putAll, valsFrom, Plan.value, Act.put, List.setIfInBounds_toArray, List.set_cons_zero, List.set_cons_succ]
        repeat ((fail_if_success (with_reducible show Code.wp _ (Code.region _ _ _) _ _ _)); go_step)
        refine wp_plain [.imm (.int .i64 0)] (by kernel_rfl) (fun β => ?_) (fun β w6 hD => ?_)
        · refine Obs.cons (Ob.imm rfl (fun w => by kernel_rfl)) ?_
          exact Obs.nil
        replace hX := hX.grown hD.gr
        clear hD
        simp only [finAct, putAll, valsFrom, Plan.value, Act.put, List.setIfInBounds_toArray, List.set_cons_zero, List.set_cons_succ]
        repeat go_step
        go_ret
        exact ⟨by rw [hdn]; rfl, hX.gw⟩
    · refine wp_plain [.val (sn x), .val (.bool false), .imm (.bool false)] (by kernel_rfl) (fun β => ?_) (fun β w2 hD => ?_)
      · refine Obs.cons (Ob.load b1 0 (il 16 (d16 x)) rfl rfl (by kernel_rfl) hX.rx Tryd.underlying45 rfl (by rw [il_length]; exact infoS)) ?_
        refine Obs.cons (Ob.call 70 #[sn x] rfl (fun w => by kernel_rfl) (fun w _ => Zero_b x hx false (decide_eq_false h0) w)) ?_
        refine Obs.cons (Ob.imm rfl (fun w => by kernel_rfl)) ?_
        exact Obs.nil
      replace hX := hX.grown hD.gr
      clear hD
      simp only [finAct, putAll, valsFrom, Plan.value, Act.put, List.setIfInBounds_toArray, List.set_cons_zero, List.set_cons_succ]
      repeat ((fail_if_success (with_reducible show Code.wp _ (Code.region _ _ _) _ _ _)); go_step)
      refine wp_plain [.imm (.bool false)] (by kernel_rfl) (fun β => ?_) (fun β w3 hD => ?_)
      · refine Obs.cons (Ob.imm rfl (fun w => by kernel_rfl)) ?_
        exact Obs.nil
      replace hX := hX.grown hD.gr
      clear hD
      simp only [finAct, putAll, valsFrom, Plan.value, Act.put, List.setIfInBounds_toArray, List.set_cons_zero, List.set_cons_succ]
      have hYY := Hid.of hY
      have hXX := Hid.of hX
      have hh0 := Hid.of h0
      clear hY hX h0
      go_wp2
      go_loopw [5] (fun v5 wr' => ∃ (x' : Nat) (s' : Int), v5 = .int .i64 s' ∧ x' ≠ 0 ∧ x' ≤ x ∧ HX w b1 b2 x' n wr' ∧ YS a x' n s') (fun _ wr' => (es (rdI wr' b1) 16).toNat)
      case atStart => exact ⟨x, s, rfl, hh0.out, Nat.le_refl _, hXX.out, hYY.out⟩
      case round =>
        clear hYY hXX hh0
        obtain ⟨x', s', rfl, h0, hle, hX, hY⟩ := hrel
        have hx' := le_S hY.xp
        have hm1 := Hid.of (hX.meas1 hx')
        repeat ((fail_if_success (with_reducible show Code.wp _ (Code.region _ _ _) _ _ _)); go_step)
        by_cases he : x' % 2 = 0
        · have hxa := cell_i hX.rx (j := 0) (by decide)
          have hod := d16_odd x'
          have hdx := d16_in x' 16 0 (by decide)
          generalize d16 x' 0 = d at hxa hod hdx
          refine wp_plain [.imm (.pointer (some ⟨b1, 0, none⟩)), .val (.int .i64 d), .imm (.int .i64 (d % 2)), .imm (.bool true)] (by kernel_rfl) (fun β => ?_) (fun β w4 hD => ?_)
          · refine Obs.cons (Ob.imm rfl (fun w => exec_idxS 0 (by decide) rfl (by kernel_rfl) (by kernel_rfl))) ?_
            refine Obs.cons (Ob.load1 b1 0 rfl rfl (by kernel_rfl) (block_lt_of_cell hxa) hxa (fun w h => run_loadI w h)) ?_
            refine Obs.cons (Ob.imm rfl (fun w => exec_remZ d 2 _ (by decide) (by omega) rfl (by kernel_rfl) (by kernel_rfl) rfl)) ?_
            refine Obs.cons (Ob.imm rfl (fun w => exec_eqlI rfl (d % 2) 0 (by kernel_rfl) (by kernel_rfl) true (decide_eq_true (by omega)))) ?_
            exact Obs.nil
          replace hX := hX.grown hD.gr
          clear hD
          clear hxa hod hdx
          simp only [finAct, putAll, valsFrom, Plan.value, Act.put, List.setIfInBounds_toArray, List.set_cons_zero, List.set_cons_succ]
          repeat ((fail_if_success (with_reducible show Code.wp _ (Code.region _ _ _) _ _ _)); go_step)
          refine wp_plain_fin [.val (sn x'), .val (sn (x' / 2)), .fin] b1 0 (fun _ => il 16 (d16 (x' / 2))) (by kernel_rfl) (fun β => ?_) (fun β w5 hD => ?_)
          · refine Obs.cons (Ob.load b1 0 (il 16 (d16 x')) rfl rfl (by kernel_rfl) hX.rx Tryd.underlying45 rfl (by rw [il_length]; exact infoS)) ?_
            refine Obs.cons (Ob.call 93 #[sn x'] rfl (fun w => by kernel_rfl) (fun w _ => half_r x' hx' w)) ?_
            refine Obs.cons (Ob.fin rfl (by rw [il_length]; exact hX.tx) rfl (by kernel_rfl) (by kernel_rfl) (by rw [il_length]; exact infoS) (il_one _ _)) ?_
            exact Obs.nil
          replace hX := (hX.grown hD.gr).putX (x' / 2)
          clear hD
          simp only [finAct, putAll, valsFrom, Plan.value, Act.put, List.setIfInBounds_toArray, List.set_cons_zero, List.set_cons_succ]
          generalize w5.setCells b1 0 (il 16 (d16 (x' / 2))) = w6 at *
          repeat ((fail_if_success (with_reducible show Code.wp _ (Code.region _ _ _) _ _ _)); go_step)
          have hxb := cell_i hX.rn (j := 0) (by decide)
          have h8 := d16_mod8 n
          have hdn := d16_in n 16 0 (by decide)
          generalize d16 n 0 = e at hxb h8 hdn
          refine wp_plain [.imm (.pointer (some ⟨b2, 0, none⟩)), .val (.int .i64 e), .imm (.int .i64 (e % 8)), .imm (.int .i64 (e % 8))] (by kernel_rfl) (fun β => ?_) (fun β w7 hD => ?_)
          · refine Obs.cons (Ob.imm rfl (fun w => exec_idxS 0 (by decide) rfl (by kernel_rfl) (by kernel_rfl))) ?_
            refine Obs.cons (Ob.load1 b2 0 rfl rfl (by kernel_rfl) (block_lt_of_cell hxb) hxb (fun w h => run_loadI w h)) ?_
            refine Obs.cons (Ob.imm rfl (fun w => exec_remZ e 8 _ (by decide) (by omega) rfl (by kernel_rfl) (by kernel_rfl) rfl)) ?_
            refine Obs.cons (Ob.imm rfl (fun w => by kernel_rfl)) ?_
            exact Obs.nil
          replace hX := hX.grown hD.gr
          clear hD
          clear hxb hdn
          simp only [finAct, putAll, valsFrom, Plan.value, Act.put, List.setIfInBounds_toArray, List.set_cons_zero, List.set_cons_succ]
          repeat ((fail_if_success (with_reducible show Code.wp _ (Code.region _ _ _) _ _ _)); go_step)
          rw [h8]
          obtain ⟨r, er⟩ : ∃ r, r = n % 8 := ⟨_, rfl⟩
          rw [← er]
          clear h8
          by_cases h3 : r = 3
          · refine wp_plain [.imm (.int .i64 (r : Int)), .imm (.bool true), .imm (.bool true), .skip, .skip, .imm (.bool true)] (by kernel_rfl) (fun β => ?_) (fun β w8 hD => ?_)
            · refine Obs.cons (Ob.imm rfl (fun w => by kernel_rfl)) ?_
              refine Obs.cons (Ob.imm rfl (fun w => exec_eqlI rfl (r : Int) 3 (by kernel_rfl) (by kernel_rfl) true (decide_eq_true (by omega)))) ?_
              refine Obs.cons (Ob.imm rfl (fun w => by kernel_rfl)) ?_
              refine Obs.cons (Ob.skip (by kernel_rfl)) ?_
              refine Obs.cons (Ob.skip (by kernel_rfl)) ?_
              refine Obs.cons (Ob.imm rfl (fun w => by kernel_rfl)) ?_
              exact Obs.nil
            replace hX := hX.grown hD.gr
            clear hD
            simp only [finAct, putAll, valsFrom, Plan.value, Act.put, List.setIfInBounds_toArray, List.set_cons_zero, List.set_cons_succ]
            repeat ((fail_if_success (with_reducible show Code.wp _ (Code.region _ _ _) _ _ _)); go_step)
            refine wp_region_lit ?_
            refine wpList_runS (v := .int .i64 s') (w' := w8) rfl (by kernel_rfl) ?_
            refine wpList_runS (v := .int .i64 (-s')) (w' := w8) rfl (exec_negI s' _ rfl (by kernel_rfl) (by have := hY.sg; rw [IntKind.wrap_i64]; omega)) ?_
            refine wpList_runS (v := .int .i64 (-s')) (w' := w8) rfl (by kernel_rfl) ?_
            apply wpList_nil
            simp only [Act.put, List.setIfInBounds_toArray, List.set_cons_zero, List.set_cons_succ]
            have hY2 := hY.half he
            rw [if_pos (by omega)] at hY2
            have hm2 := Hid.of (hX.meas1 (le_S hY2.xp))
            have hh := Hid.of (And.intro hX (And.intro hY2 (And.intro h0 (And.intro hle he))))
            clear hX hY hY2 h0 hle he
            go_wp2
            refine ⟨⟨_, -s', rfl, by have := hh.out.2.2; omega, by have := hh.out.2.2; omega, hh.out.1, hh.out.2.1⟩, ?_⟩
            rw [hm2.out, hm1.out]
            have := hh.out.2.2
            omega
          · by_cases h5 : r = 5
            · refine wp_plain [.imm (.int .i64 (r : Int)), .imm (.bool false), .imm (.bool false), .imm (.int .i64 (r : Int)), .imm (.bool true), .imm (.bool true)] (by kernel_rfl) (fun β => ?_) (fun β w8 hD => ?_)
              · refine Obs.cons (Ob.imm rfl (fun w => by kernel_rfl)) ?_
                refine Obs.cons (Ob.imm rfl (fun w => exec_eqlI rfl (r : Int) 3 (by kernel_rfl) (by kernel_rfl) false (decide_eq_false (by omega)))) ?_
                refine Obs.cons (Ob.imm rfl (fun w => by kernel_rfl)) ?_
                refine Obs.cons (Ob.imm (by kernel_rfl) (fun w => by kernel_rfl)) ?_
                refine Obs.cons (Ob.imm (by kernel_rfl) (fun w => exec_eqlI rfl (r : Int) 5 (by kernel_rfl) (by kernel_rfl) true (decide_eq_true (by omega)))) ?_
                refine Obs.cons (Ob.imm rfl (fun w => by kernel_rfl)) ?_
                exact Obs.nil
              replace hX := hX.grown hD.gr
              clear hD
              simp only [finAct, putAll, valsFrom, Plan.value, Act.put, List.setIfInBounds_toArray, List.set_cons_zero, List.set_cons_succ]
              repeat ((fail_if_success (with_reducible show Code.wp _ (Code.region _ _ _) _ _ _)); go_step)
              refine wp_region_lit ?_
              refine wpList_runS (v := .int .i64 s') (w' := w8) rfl (by kernel_rfl) ?_
              refine wpList_runS (v := .int .i64 (-s')) (w' := w8) rfl (exec_negI s' _ rfl (by kernel_rfl) (by have := hY.sg; rw [IntKind.wrap_i64]; omega)) ?_
              refine wpList_runS (v := .int .i64 (-s')) (w' := w8) rfl (by kernel_rfl) ?_
              apply wpList_nil
              simp only [Act.put, List.setIfInBounds_toArray, List.set_cons_zero, List.set_cons_succ]
              have hY2 := hY.half he
              rw [if_pos (by omega)] at hY2
              have hm2 := Hid.of (hX.meas1 (le_S hY2.xp))
              have hh := Hid.of (And.intro hX (And.intro hY2 (And.intro h0 (And.intro hle he))))
              clear hX hY hY2 h0 hle he
              go_wp2
              refine ⟨⟨_, -s', rfl, by have := hh.out.2.2; omega, by have := hh.out.2.2; omega, hh.out.1, hh.out.2.1⟩, ?_⟩
              rw [hm2.out, hm1.out]
              have := hh.out.2.2
              omega
            · refine wp_plain [.imm (.int .i64 (r : Int)), .imm (.bool false), .imm (.bool false), .imm (.int .i64 (r : Int)), .imm (.bool false), .imm (.bool false)] (by kernel_rfl) (fun β => ?_) (fun β w8 hD => ?_)
              · refine Obs.cons (Ob.imm rfl (fun w => by kernel_rfl)) ?_
                refine Obs.cons (Ob.imm rfl (fun w => exec_eqlI rfl (r : Int) 3 (by kernel_rfl) (by kernel_rfl) false (decide_eq_false (by omega)))) ?_
                refine Obs.cons (Ob.imm rfl (fun w => by kernel_rfl)) ?_
                refine Obs.cons (Ob.imm (by kernel_rfl) (fun w => by kernel_rfl)) ?_
                refine Obs.cons (Ob.imm (by kernel_rfl) (fun w => exec_eqlI rfl (r : Int) 5 (by kernel_rfl) (by kernel_rfl) false (decide_eq_false (by omega)))) ?_
                refine Obs.cons (Ob.imm rfl (fun w => by kernel_rfl)) ?_
                exact Obs.nil
              replace hX := hX.grown hD.gr
              clear hD
              simp only [finAct, putAll, valsFrom, Plan.value, Act.put, List.setIfInBounds_toArray, List.set_cons_zero, List.set_cons_succ]
              have hY2 := hY.half he
              rw [if_neg (by omega)] at hY2
              have hm2 := Hid.of (hX.meas1 (le_S hY2.xp))
              have hh := Hid.of (And.intro hX (And.intro hY2 (And.intro h0 (And.intro hle he))))
              clear hX hY hY2 h0 hle he
              go_wp2
              refine ⟨⟨_, s', rfl, by have := hh.out.2.2; omega, by have := hh.out.2.2; omega, hh.out.1, hh.out.2.1⟩, ?_⟩
              rw [hm2.out, hm1.out]
              have := hh.out.2.2
              omega
        · have hxa := cell_i hX.rx (j := 0) (by decide)
          have hod := d16_odd x'
          have hdx := d16_in x' 16 0 (by decide)
          generalize d16 x' 0 = d at hxa hod hdx
          refine wp_plain [.imm (.pointer (some ⟨b1, 0, none⟩)), .val (.int .i64 d), .imm (.int .i64 (d % 2)), .imm (.bool false)] (by kernel_rfl) (fun β => ?_) (fun β w4 hD => ?_)
          · refine Obs.cons (Ob.imm rfl (fun w => exec_idxS 0 (by decide) rfl (by kernel_rfl) (by kernel_rfl))) ?_
            refine Obs.cons (Ob.load1 b1 0 rfl rfl (by kernel_rfl) (block_lt_of_cell hxa) hxa (fun w h => run_loadI w h)) ?_
            refine Obs.cons (Ob.imm rfl (fun w => exec_remZ d 2 _ (by decide) (by omega) rfl (by kernel_rfl) (by kernel_rfl) rfl)) ?_
            refine Obs.cons (Ob.imm rfl (fun w => exec_eqlI rfl (d % 2) 0 (by kernel_rfl) (by kernel_rfl) false (decide_eq_false (by omega)))) ?_
            exact Obs.nil
          replace hX := hX.grown hD.gr
          clear hD
          clear hxa hod hdx
          simp only [finAct, putAll, valsFrom, Plan.value, Act.put, List.setIfInBounds_toArray, List.set_cons_zero, List.set_cons_succ]
          repeat ((fail_if_success (with_reducible show Code.wp _ (Code.region _ _ _) _ _ _)); go_step)
          by_cases hb : x' < n
          · refine wp_plain [.val (sn x'), .val (sn n), .val (.bool true), .imm (.bool true)] (by kernel_rfl) (fun β => ?_) (fun β w5 hD => ?_)
            · refine Obs.cons (Ob.load b1 0 (il 16 (d16 x')) rfl rfl (by kernel_rfl) hX.rx Tryd.underlying45 rfl (by rw [il_length]; exact infoS)) ?_
              refine Obs.cons (Ob.load b2 0 (il 16 (d16 n)) rfl rfl (by kernel_rfl) hX.rn Tryd.underlying45 rfl (by rw [il_length]; exact infoS)) ?_
              refine Obs.cons (Ob.call 95 #[sn x', sn n] rfl (fun w => by kernel_rfl) (fun w _ => Below_b x' n hx' hn true (decide_eq_true hb) w)) ?_
              refine Obs.cons (Ob.imm rfl (fun w => by kernel_rfl)) ?_
              exact Obs.nil
            replace hX := hX.grown hD.gr
            clear hD
            simp only [finAct, putAll, valsFrom, Plan.value, Act.put, List.setIfInBounds_toArray, List.set_cons_zero, List.set_cons_succ]
            repeat ((fail_if_success (with_reducible show Code.wp _ (Code.region _ _ _) _ _ _)); go_step)
            refine wp_plain [.imm (.bool true)] (by kernel_rfl) (fun β => ?_) (fun β w6 hD => ?_)
            · refine Obs.cons (Ob.imm rfl (fun w => by kernel_rfl)) ?_
              exact Obs.nil
            replace hX := hX.grown hD.gr
            clear hD
            simp only [finAct, putAll, valsFrom, Plan.value, Act.put, List.setIfInBounds_toArray, List.set_cons_zero, List.set_cons_succ]
            go_wp2_with (with_reducible show wpList _ _ _ ({ dst := _, op := Op.load 45 _, type := _, pos := _, after := _, guard := _ } :: _) _ _; refine Shut.out ?_)
            show wpList _ _ _ _ _ _
            refine wpList_load_mid rfl 45 _ rfl b2 0 rfl (il 16 (d16 n)) _ hX.rn Tryd.underlying45 rfl (by rw [il_length]; exact infoS) ?_
            simp only [Act.put, List.setIfInBounds_toArray, List.set_cons_zero, List.set_cons_succ]
            refine wpList_load_mid rfl 45 _ rfl b1 0 rfl (il 16 (d16 x')) _ hX.rx Tryd.underlying45 rfl (by rw [il_length]; exact infoS) ?_
            simp only [Act.put, List.setIfInBounds_toArray, List.set_cons_zero, List.set_cons_succ]
            refine wpList_store_mid rfl 45 _ _ rfl b1 0 (il 16 (d16 n)).toArray rfl rfl (by rw [List.size_toArray, il_length]; exact hX.tx) (by rw [List.size_toArray, il_length]; exact infoS) (all_oneCell_toArray (il_one _ _)) ?_
            simp only [Act.put]
            replace hX := hX.putX n
            refine wpList_store_mid rfl 45 _ _ rfl b2 0 (il 16 (d16 x')).toArray rfl rfl (by rw [List.size_toArray, il_length]; exact hX.tn) (by rw [List.size_toArray, il_length]; exact infoS) (all_oneCell_toArray (il_one _ _)) ?_
            simp only [Act.put]
            replace hX := hX.putN x'
            apply wpList_nil
            have hW0 := hX.gw
            generalize (w6.setCells b1 0 (il 16 (d16 n)).toArray.toList).setCells b2 0 (il 16 (d16 x')).toArray.toList = w7 at *
            repeat ((fail_if_success (with_reducible show Code.wp _ (Code.region _ _ _) _ _ _)); go_step)
            have hY2 := hY.swap (by omega)
            have hxa := cell_i hX.rx (j := 0) (by decide)
            have hxb := cell_i hX.rn (j := 0) (by decide)
            have h4a := d16_mod4 n
            have h4b := d16_mod4 x'
            have hdx := d16_in n 16 0 (by decide)
            have hex := d16_in x' 16 0 (by decide)
            generalize d16 n 0 = d at hxa h4a hdx
            generalize d16 x' 0 = e at hxb h4b hex
            clear hW0
            by_cases ha4 : n % 4 = 3
            · by_cases hb4 : x' % 4 = 3
              · rw [if_pos ⟨ha4, hb4⟩] at hY2
                refine wp_plain [.imm (.pointer (some ⟨b1, 0, none⟩)), .val (.int .i64 d), .imm (.int .i64 (d % 4)), .imm (.bool true), .imm (.bool true), .imm (.pointer (some ⟨b2, 0, none⟩)), .val (.int .i64 e), .imm (.int .i64 (e % 4)), .imm (.bool true), .imm (.bool true)] (by kernel_rfl) (fun β => ?_) (fun β w8 hD => ?_)
                · refine Obs.cons (Ob.imm rfl (fun w => exec_idxS 0 (by decide) rfl (by kernel_rfl) (by kernel_rfl))) ?_
                  refine Obs.cons (Ob.load1 b1 0 rfl rfl (by kernel_rfl) (block_lt_of_cell hxa) hxa (fun w h => run_loadI w h)) ?_
                  refine Obs.cons (Ob.imm rfl (fun w => exec_remZ d 4 _ (by decide) (by omega) rfl (by kernel_rfl) (by kernel_rfl) rfl)) ?_
                  refine Obs.cons (Ob.imm rfl (fun w => exec_eqlI rfl (d % 4) 3 (by kernel_rfl) (by kernel_rfl) true (decide_eq_true (by omega)))) ?_
                  refine Obs.cons (Ob.imm rfl (fun w => by kernel_rfl)) ?_
                  refine Obs.cons (Ob.imm (by kernel_rfl) (fun w => exec_idxS 0 (by decide) rfl (by kernel_rfl) (by kernel_rfl))) ?_
                  refine Obs.cons (Ob.load1 b2 0 (by kernel_rfl) rfl (by kernel_rfl) (block_lt_of_cell hxb) hxb (fun w h => run_loadI w h)) ?_
                  refine Obs.cons (Ob.imm (by kernel_rfl) (fun w => exec_remZ e 4 _ (by decide) (by omega) rfl (by kernel_rfl) (by kernel_rfl) rfl)) ?_
                  refine Obs.cons (Ob.imm (by kernel_rfl) (fun w => exec_eqlI rfl (e % 4) 3 (by kernel_rfl) (by kernel_rfl) true (decide_eq_true (by omega)))) ?_
                  refine Obs.cons (Ob.imm rfl (fun w => by kernel_rfl)) ?_
                  exact Obs.nil
                replace hX := hX.grown hD.gr
                clear hD
                clear hxa hxb hdx hex
                simp only [finAct, putAll, valsFrom, Plan.value, Act.put, List.setIfInBounds_toArray, List.set_cons_zero, List.set_cons_succ]
                repeat ((fail_if_success (with_reducible show Code.wp _ (Code.region _ _ _) _ _ _)); go_step)
                refine wp_region_lit ?_
                refine wpList_runS (v := .int .i64 s') (w' := w8) rfl (by kernel_rfl) ?_
                refine wpList_runS (v := .int .i64 (-s')) (w' := w8) rfl (exec_negI s' _ rfl (by kernel_rfl) (by have := hY.sg; rw [IntKind.wrap_i64]; omega)) ?_
                refine wpList_runS (v := .int .i64 (-s')) (w' := w8) rfl (by kernel_rfl) ?_
                apply wpList_nil
                simp only [Act.put, List.setIfInBounds_toArray, List.set_cons_zero, List.set_cons_succ]
                repeat ((fail_if_success (with_reducible show Code.wp _ (Code.region _ _ _) _ _ _)); go_step)
                refine wp_plain_fin [.val (sn n), .val (sn x'), .val (sn (n - x')), .fin] b1 0 (fun _ => il 16 (d16 (n - x'))) (by kernel_rfl) (fun β => ?_) (fun β w11 hD => ?_)
                · refine Obs.cons (Ob.load b1 0 (il 16 (d16 n)) rfl rfl (by kernel_rfl) hX.rx Tryd.underlying45 rfl (by rw [il_length]; exact infoS)) ?_
                  refine Obs.cons (Ob.load b2 0 (il 16 (d16 x')) rfl rfl (by kernel_rfl) hX.rn Tryd.underlying45 rfl (by rw [il_length]; exact infoS)) ?_
                  refine Obs.cons (Ob.call 90 #[sn n, sn x'] rfl (fun w => by kernel_rfl) (fun w _ => less_r n x' (hn) (by omega) w)) ?_
                  refine Obs.cons (Ob.fin rfl (by rw [il_length]; exact hX.tx) rfl (by kernel_rfl) (by kernel_rfl) (by rw [il_length]; exact infoS) (il_one _ _)) ?_
                  exact Obs.nil
                replace hX := (hX.grown hD.gr).putX (n - x')
                clear hD
                simp only [finAct, putAll, valsFrom, Plan.value, Act.put, List.setIfInBounds_toArray, List.set_cons_zero, List.set_cons_succ]
                generalize w11.setCells b1 0 (il 16 (d16 (n - x'))) = w12 at *
                have hY3 := (hY2.less (by omega))
                have hm2 := Hid.of (hX.meas (le_S hY3.xp) (le_S hY3.np))
                have hh := Hid.of (And.intro hX (And.intro hY3 (And.intro h0 (And.intro hle (And.intro hb hY.no)))))
                clear hX hY hY3 h0 hle hb
                go_wp2
                refine ⟨⟨_, _, -s', rfl, hh.out.1, hh.out.2.1⟩, ?_⟩
                rw [hm2.out, hme.out]
                have := hh.out.2.2
                omega
              · rw [if_neg (fun q => hb4 q.2)] at hY2
                refine wp_plain [.imm (.pointer (some ⟨b1, 0, none⟩)), .val (.int .i64 d), .imm (.int .i64 (d % 4)), .imm (.bool true), .imm (.bool true), .imm (.pointer (some ⟨b2, 0, none⟩)), .val (.int .i64 e), .imm (.int .i64 (e % 4)), .imm (.bool false), .imm (.bool false)] (by kernel_rfl) (fun β => ?_) (fun β w8 hD => ?_)
                · refine Obs.cons (Ob.imm rfl (fun w => exec_idxS 0 (by decide) rfl (by kernel_rfl) (by kernel_rfl))) ?_
                  refine Obs.cons (Ob.load1 b1 0 rfl rfl (by kernel_rfl) (block_lt_of_cell hxa) hxa (fun w h => run_loadI w h)) ?_
                  refine Obs.cons (Ob.imm rfl (fun w => exec_remZ d 4 _ (by decide) (by omega) rfl (by kernel_rfl) (by kernel_rfl) rfl)) ?_
                  refine Obs.cons (Ob.imm rfl (fun w => exec_eqlI rfl (d % 4) 3 (by kernel_rfl) (by kernel_rfl) true (decide_eq_true (by omega)))) ?_
                  refine Obs.cons (Ob.imm rfl (fun w => by kernel_rfl)) ?_
                  refine Obs.cons (Ob.imm (by kernel_rfl) (fun w => exec_idxS 0 (by decide) rfl (by kernel_rfl) (by kernel_rfl))) ?_
                  refine Obs.cons (Ob.load1 b2 0 (by kernel_rfl) rfl (by kernel_rfl) (block_lt_of_cell hxb) hxb (fun w h => run_loadI w h)) ?_
                  refine Obs.cons (Ob.imm (by kernel_rfl) (fun w => exec_remZ e 4 _ (by decide) (by omega) rfl (by kernel_rfl) (by kernel_rfl) rfl)) ?_
                  refine Obs.cons (Ob.imm (by kernel_rfl) (fun w => exec_eqlI rfl (e % 4) 3 (by kernel_rfl) (by kernel_rfl) false (decide_eq_false (by omega)))) ?_
                  refine Obs.cons (Ob.imm rfl (fun w => by kernel_rfl)) ?_
                  exact Obs.nil
                replace hX := hX.grown hD.gr
                clear hD
                clear hxa hxb hdx hex
                simp only [finAct, putAll, valsFrom, Plan.value, Act.put, List.setIfInBounds_toArray, List.set_cons_zero, List.set_cons_succ]
                repeat ((fail_if_success (with_reducible show Code.wp _ (Code.region _ _ _) _ _ _)); go_step)
                refine wp_plain_fin [.val (sn n), .val (sn x'), .val (sn (n - x')), .fin] b1 0 (fun _ => il 16 (d16 (n - x'))) (by kernel_rfl) (fun β => ?_) (fun β w11 hD => ?_)
                · refine Obs.cons (Ob.load b1 0 (il 16 (d16 n)) rfl rfl (by kernel_rfl) hX.rx Tryd.underlying45 rfl (by rw [il_length]; exact infoS)) ?_
                  refine Obs.cons (Ob.load b2 0 (il 16 (d16 x')) rfl rfl (by kernel_rfl) hX.rn Tryd.underlying45 rfl (by rw [il_length]; exact infoS)) ?_
                  refine Obs.cons (Ob.call 90 #[sn n, sn x'] rfl (fun w => by kernel_rfl) (fun w _ => less_r n x' (hn) (by omega) w)) ?_
                  refine Obs.cons (Ob.fin rfl (by rw [il_length]; exact hX.tx) rfl (by kernel_rfl) (by kernel_rfl) (by rw [il_length]; exact infoS) (il_one _ _)) ?_
                  exact Obs.nil
                replace hX := (hX.grown hD.gr).putX (n - x')
                clear hD
                simp only [finAct, putAll, valsFrom, Plan.value, Act.put, List.setIfInBounds_toArray, List.set_cons_zero, List.set_cons_succ]
                generalize w11.setCells b1 0 (il 16 (d16 (n - x'))) = w12 at *
                have hY3 := (hY2.less (by omega))
                have hm2 := Hid.of (hX.meas (le_S hY3.xp) (le_S hY3.np))
                have hh := Hid.of (And.intro hX (And.intro hY3 (And.intro h0 (And.intro hle (And.intro hb hY.no)))))
                clear hX hY hY3 h0 hle hb
                go_wp2
                refine ⟨⟨_, _, s', rfl, hh.out.1, hh.out.2.1⟩, ?_⟩
                rw [hm2.out, hme.out]
                have := hh.out.2.2
                omega
            · rw [if_neg (fun q => ha4 q.1)] at hY2
              refine wp_plain [.imm (.pointer (some ⟨b1, 0, none⟩)), .val (.int .i64 d), .imm (.int .i64 (d % 4)), .imm (.bool false), .imm (.bool false), .skip, .skip, .skip, .skip, .imm (.bool false)] (by kernel_rfl) (fun β => ?_) (fun β w8 hD => ?_)
              · refine Obs.cons (Ob.imm rfl (fun w => exec_idxS 0 (by decide) rfl (by kernel_rfl) (by kernel_rfl))) ?_
                refine Obs.cons (Ob.load1 b1 0 rfl rfl (by kernel_rfl) (block_lt_of_cell hxa) hxa (fun w h => run_loadI w h)) ?_
                refine Obs.cons (Ob.imm rfl (fun w => exec_remZ d 4 _ (by decide) (by omega) rfl (by kernel_rfl) (by kernel_rfl) rfl)) ?_
                refine Obs.cons (Ob.imm rfl (fun w => exec_eqlI rfl (d % 4) 3 (by kernel_rfl) (by kernel_rfl) false (decide_eq_false (by omega)))) ?_
                refine Obs.cons (Ob.imm rfl (fun w => by kernel_rfl)) ?_
                refine Obs.cons (Ob.skip (by kernel_rfl)) ?_
                refine Obs.cons (Ob.skip (by kernel_rfl)) ?_
                refine Obs.cons (Ob.skip (by kernel_rfl)) ?_
                refine Obs.cons (Ob.skip (by kernel_rfl)) ?_
                refine Obs.cons (Ob.imm rfl (fun w => by kernel_rfl)) ?_
                exact Obs.nil
              replace hX := hX.grown hD.gr
              clear hD
              clear hxa hxb hdx hex
              simp only [finAct, putAll, valsFrom, Plan.value, Act.put, List.setIfInBounds_toArray, List.set_cons_zero, List.set_cons_succ]
              repeat ((fail_if_success (with_reducible show Code.wp _ (Code.region _ _ _) _ _ _)); go_step)
              refine wp_plain_fin [.val (sn n), .val (sn x'), .val (sn (n - x')), .fin] b1 0 (fun _ => il 16 (d16 (n - x'))) (by kernel_rfl) (fun β => ?_) (fun β w11 hD => ?_)
              · refine Obs.cons (Ob.load b1 0 (il 16 (d16 n)) rfl rfl (by kernel_rfl) hX.rx Tryd.underlying45 rfl (by rw [il_length]; exact infoS)) ?_
                refine Obs.cons (Ob.load b2 0 (il 16 (d16 x')) rfl rfl (by kernel_rfl) hX.rn Tryd.underlying45 rfl (by rw [il_length]; exact infoS)) ?_
                refine Obs.cons (Ob.call 90 #[sn n, sn x'] rfl (fun w => by kernel_rfl) (fun w _ => less_r n x' (hn) (by omega) w)) ?_
                refine Obs.cons (Ob.fin rfl (by rw [il_length]; exact hX.tx) rfl (by kernel_rfl) (by kernel_rfl) (by rw [il_length]; exact infoS) (il_one _ _)) ?_
                exact Obs.nil
              replace hX := (hX.grown hD.gr).putX (n - x')
              clear hD
              simp only [finAct, putAll, valsFrom, Plan.value, Act.put, List.setIfInBounds_toArray, List.set_cons_zero, List.set_cons_succ]
              generalize w11.setCells b1 0 (il 16 (d16 (n - x'))) = w12 at *
              have hY3 := (hY2.less (by omega))
              have hm2 := Hid.of (hX.meas (le_S hY3.xp) (le_S hY3.np))
              have hh := Hid.of (And.intro hX (And.intro hY3 (And.intro h0 (And.intro hle (And.intro hb hY.no)))))
              clear hX hY hY3 h0 hle hb
              go_wp2
              refine ⟨⟨_, _, s', rfl, hh.out.1, hh.out.2.1⟩, ?_⟩
              rw [hm2.out, hme.out]
              have := hh.out.2.2
              omega
          · refine wp_plain [.val (sn x'), .val (sn n), .val (.bool false), .imm (.bool false)] (by kernel_rfl) (fun β => ?_) (fun β w5 hD => ?_)
            · refine Obs.cons (Ob.load b1 0 (il 16 (d16 x')) rfl rfl (by kernel_rfl) hX.rx Tryd.underlying45 rfl (by rw [il_length]; exact infoS)) ?_
              refine Obs.cons (Ob.load b2 0 (il 16 (d16 n)) rfl rfl (by kernel_rfl) hX.rn Tryd.underlying45 rfl (by rw [il_length]; exact infoS)) ?_
              refine Obs.cons (Ob.call 95 #[sn x', sn n] rfl (fun w => by kernel_rfl) (fun w _ => Below_b x' n hx' hn false (decide_eq_false hb) w)) ?_
              refine Obs.cons (Ob.imm rfl (fun w => by kernel_rfl)) ?_
              exact Obs.nil
            replace hX := hX.grown hD.gr
            clear hD
            simp only [finAct, putAll, valsFrom, Plan.value, Act.put, List.setIfInBounds_toArray, List.set_cons_zero, List.set_cons_succ]
            repeat ((fail_if_success (with_reducible show Code.wp _ (Code.region _ _ _) _ _ _)); go_step)
            refine wp_plain [.imm (.bool false)] (by kernel_rfl) (fun β => ?_) (fun β w6 hD => ?_)
            · refine Obs.cons (Ob.imm rfl (fun w => by kernel_rfl)) ?_
              exact Obs.nil
            replace hX := hX.grown hD.gr
            clear hD
            simp only [finAct, putAll, valsFrom, Plan.value, Act.put, List.setIfInBounds_toArray, List.set_cons_zero, List.set_cons_succ]
            repeat ((fail_if_success (with_reducible show Code.wp _ (Code.region _ _ _) _ _ _)); go_step)
            refine wp_plain_fin [.val (sn x'), .val (sn n), .val (sn (x' - n)), .fin] b1 0 (fun _ => il 16 (d16 (x' - n))) (by kernel_rfl) (fun β => ?_) (fun β w11 hD => ?_)
            · refine Obs.cons (Ob.load b1 0 (il 16 (d16 x')) rfl rfl (by kernel_rfl) hX.rx Tryd.underlying45 rfl (by rw [il_length]; exact infoS)) ?_
              refine Obs.cons (Ob.load b2 0 (il 16 (d16 n)) rfl rfl (by kernel_rfl) hX.rn Tryd.underlying45 rfl (by rw [il_length]; exact infoS)) ?_
              refine Obs.cons (Ob.call 90 #[sn x', sn n] rfl (fun w => by kernel_rfl) (fun w _ => less_r x' n (hx') (by omega) w)) ?_
              refine Obs.cons (Ob.fin rfl (by rw [il_length]; exact hX.tx) rfl (by kernel_rfl) (by kernel_rfl) (by rw [il_length]; exact infoS) (il_one _ _)) ?_
              exact Obs.nil
            replace hX := (hX.grown hD.gr).putX (x' - n)
            clear hD
            simp only [finAct, putAll, valsFrom, Plan.value, Act.put, List.setIfInBounds_toArray, List.set_cons_zero, List.set_cons_succ]
            generalize w11.setCells b1 0 (il 16 (d16 (x' - n))) = w12 at *
            have hY3 := hY.less (by omega)
            have hm2 := Hid.of (hX.meas (le_S hY3.xp) (le_S hY3.np))
            have hh := Hid.of (And.intro hX (And.intro hY3 (And.intro h0 (And.intro hle (And.intro hb hY.no)))))
            clear hX hY hY3 h0 hle hb
            go_wp2
            refine ⟨⟨_, _, s', rfl, hh.out.1, hh.out.2.1⟩, ?_⟩
            rw [hm2.out, hme.out]
            have := hh.out.2.2
            omega

end Go.Proofs.YtkegcilcapnpdaaDoor

namespace Go.Proofs.YtkegcilcapnpdaaDoor
open Go.RowKit Go.Shelf FieldNum

set_option maxRecDepth 100000 in
set_option maxHeartbeats 4000000 in
theorem ends_r (lo hi : Int) (e : Nat) (hb : ∀ j, j < 32 → by8 e j = if j = 0 then lo else if j = 31 then hi else 255) (w : World) : Calls Tryd.prog 96 #[.int .u8 lo, .int .u8 hi] w fun ex w' => ex = .returned (bv e) ∧ Grown w w' := by
  have HB := Hid.of hb
  clear hb
  go_enter Tryd.func96, Tryd.ntmps96
  repeat ((fail_if_success (with_reducible show Code.wp _ (Code.region _ _ _) _ _ _)); go_step)
  refine wp_plain [.new 23 32] (by kernel_rfl) (fun β => ?_) (fun β w1 hD => ?_)
  · refine Obs.cons (Ob.new _ rfl rfl zero32.1 (by simp [bl_length])) ?_
    exact Obs.nil
  obtain ⟨hf2, ht2⟩ := hD.nw 0 _ _ rfl
  have hW := hD.gr
  clear hD
  simp only [finAct, putAll, valsFrom, Plan.value, Act.put, List.setIfInBounds_toArray, List.set_cons_zero, List.set_cons_succ]
  generalize β 0 = bR at *
  repeat ((fail_if_success (with_reducible show Code.wp _ (Code.region _ _ _) _ _ _)); go_step)
  refine wp_plain [.box 23 (bl 0)] (by kernel_rfl) (fun β => ?_) (fun β w2 hD => ?_)
  · refine Obs.cons (Ob.newz (bl 0) rfl rfl zero32.1) ?_
    exact Obs.nil
  obtain ⟨hf3, hr3⟩ := hD.bx 0 _ _ rfl
  have hb2 : bR < w1.heap.size := there_lt' ht2 (by decide)
  have hP0 : KX w 32 (β 0) bR 32 (uF fun _ => 0) [] w2 := ⟨fun j hj => by rw [cell_b hr3 hj]; unfold uF; simp, fun j => (hD.gr.2.1 _).trans (frozen_past hf3), (fun q hq => by cases hq),
      there_grown ht2 hD.gr, by omega, Nat.le_trans hW.2.2 hf3, hf2, grown_trans hW hD.gr⟩
  clear hD hf2 ht2 hW hf3 hr3 hb2
  simp only [finAct, putAll, valsFrom, Plan.value, Act.put, List.setIfInBounds_toArray, List.set_cons_zero, List.set_cons_succ]
  generalize β 0 = bG at *
  go_wp2
  go_loopw [6] (fun v wr => ∃ k : Nat, v = .int .i64 (k : Int) ∧ k ≤ 32 ∧ KX w 32 bG bR 32 (uF (mix (fun _ => 255) (fun _ => 0) k)) [] wr) (fun v _ => (32 - intOf v).toNat)
  case atStart => exact ⟨0, rfl, by decide, by rw [mix_zero]; exact hP0⟩
  case round =>
    obtain ⟨k, rfl, hk, hX⟩ := hrel
    clear hP0
    by_cases hlt : k < 32
    · repeat ((fail_if_success (with_reducible show Code.wp _ (Code.region _ _ _) _ _ _)); go_step)
      refine wp_plain [.imm (.int .i64 (k : Int)), .imm (.bool true)] (by kernel_rfl) (fun β => ?_) (fun β w3 hD => ?_)
      · refine Obs.cons (Ob.imm rfl (fun w => by kernel_rfl)) ?_
        refine Obs.cons (Ob.imm rfl (fun w => exec_lssI rfl (k : Int) 32 (by kernel_rfl) (by kernel_rfl) true (decide_eq_true (by omega)))) ?_
        exact Obs.nil
      replace hX := hX.grown hD.gr
      clear hD
      simp only [finAct, putAll, valsFrom, Plan.value, Act.put, List.setIfInBounds_toArray, List.set_cons_zero, List.set_cons_succ]
      repeat ((fail_if_success (with_reducible show Code.wp _ (Code.region _ _ _) _ _ _)); go_step)
      refine wp_plain_fin [.imm (.int .i64 (k : Int)), .imm (.pointer (some ⟨bG, k, none⟩)), .fin] bG k (fun _ => [.int .u8 255]) (by kernel_rfl) (fun β => ?_) (fun β w4 hD => ?_)
      · refine Obs.cons (Ob.imm rfl (fun w => by kernel_rfl)) ?_
        refine Obs.cons (Ob.imm rfl (fun w => exec_idx k hlt rfl (by kernel_rfl) (by kernel_rfl))) ?_
        refine Obs.cons (Ob.fin1 (.int .u8 255) rfl rfl (hX.cellthere hlt) rfl (by kernel_rfl) (by kernel_rfl) (fun w v0 h hf => run_store8 w v0 h hf)) ?_
        exact Obs.nil
      have hS := Hid.of ((hX.grown hD.gr).uset (mix (fun _ => 255) (fun _ => 0) (k + 1)) k hlt 255 (mix_put _ _ _) (mix_off _ _ _))
      have hkk := Hid.of hlt
      have eL := Hid.of (show wrap64 ((k : Int) + 1) = ((k + 1 : Nat) : Int) by unfold wrap64; omega)
      clear hD hX hlt hk
      simp only [finAct, putAll, valsFrom, Plan.value, Act.put, List.setIfInBounds_toArray, List.set_cons_zero, List.set_cons_succ]
      go_wp2
      rw [eL.out]
      exact ⟨⟨k + 1, rfl, hkk.out, hS.out⟩, by have := hkk.out; simp [intOf]; omega⟩
    · obtain rfl : k = 32 := by omega
      replace hX := hX.congr (F' := uF fun _ => 255) (fun j hj => by unfold uF; rw [mix_all _ _ hj])
      clear hlt hk
      repeat ((fail_if_success (with_reducible show Code.wp _ (Code.region _ _ _) _ _ _)); go_step)
      refine wp_plain [.imm (.int .i64 ((32 : Nat) : Int)), .imm (.bool false)] (by kernel_rfl) (fun β => ?_) (fun β w3 hD => ?_)
      · refine Obs.cons (Ob.imm rfl (fun w => by kernel_rfl)) ?_
        refine Obs.cons (Ob.imm rfl (fun w => by kernel_rfl)) ?_
        exact Obs.nil
      replace hX := hX.grown hD.gr
      clear hD
      simp only [finAct, putAll, valsFrom, Plan.value, Act.put, List.setIfInBounds_toArray, List.set_cons_zero, List.set_cons_succ]
      repeat ((fail_if_success (with_reducible show Code.wp _ (Code.region _ _ _) _ _ _)); go_step)
      refine wp_plain_fin [.imm (.int .u8 lo), .imm (.pointer (some ⟨bG, 0, none⟩)), .fin] bG 0 (fun _ => [.int .u8 lo]) (by kernel_rfl) (fun β => ?_) (fun β w4 hD => ?_)
      · refine Obs.cons (Ob.imm rfl (fun w => by kernel_rfl)) ?_
        refine Obs.cons (Ob.imm rfl (fun w => exec_idx 0 (by decide) rfl (by kernel_rfl) (by kernel_rfl))) ?_
        refine Obs.cons (Ob.fin1 (.int .u8 lo) rfl rfl (hX.cellthere (by decide)) rfl (by kernel_rfl) (by kernel_rfl) (fun w v0 h hf => run_store8 w v0 h hf)) ?_
        exact Obs.nil
      replace hX := (hX.grown hD.gr).uset (fun j => if j = 0 then lo else 255) 0 (by decide) lo (if_pos rfl) (fun j hj => if_neg hj)
      clear hD
      simp only [finAct, putAll, valsFrom, Plan.value, Act.put, List.setIfInBounds_toArray, List.set_cons_zero, List.set_cons_succ]
      repeat ((fail_if_success (with_reducible show Code.wp _ (Code.region _ _ _) _ _ _)); go_step)
      refine wp_plain_fin [.imm (.int .u8 hi), .imm (.pointer (some ⟨bG, 31, none⟩)), .fin] bG 31 (fun _ => [.int .u8 hi]) (by kernel_rfl) (fun β => ?_) (fun β w5 hD => ?_)
      · refine Obs.cons (Ob.imm rfl (fun w => by kernel_rfl)) ?_
        refine Obs.cons (Ob.imm rfl (fun w => exec_idx 31 (by decide) rfl (by kernel_rfl) (by kernel_rfl))) ?_
        refine Obs.cons (Ob.fin1 (.int .u8 hi) rfl rfl (hX.cellthere (by decide)) rfl (by kernel_rfl) (by kernel_rfl) (fun w v0 h hf => run_store8 w v0 h hf)) ?_
        exact Obs.nil
      replace hX := (hX.grown hD.gr).uset (fun j => if j = 0 then lo else if j = 31 then hi else 255) 31 (by decide) hi (by rw [if_neg (by decide), if_pos rfl]) (fun j hj => by simp only [if_neg hj])
      replace hX := hX.congr (F' := uF (by8 e)) (fun j hj => by unfold uF; rw [HB.out j hj])
      clear hD
      simp only [finAct, putAll, valsFrom, Plan.value, Act.put, List.setIfInBounds_toArray, List.set_cons_zero, List.set_cons_succ]
      have hr := hX.range (bl e) (bl_length e) (fun j hj => by rw [bl_get e j hj]; rfl)
      have ht := hX.tr
      have hf := hX.f2
      have hW := hX.gw
      clear hX
      go_wp2_with (with_reducible show wpList _ _ _ ({ dst := _, op := Op.load 23 _, type := _, pos := _, after := _, guard := _ } :: _) _ _; refine Shut.out ?_)
      show wpList _ _ _ _ _ _
      refine wpList_load_mid rfl 23 _ rfl bG 0 rfl (bl e) _ hr Tryd.underlying23 rfl (by rw [bl_length]; exact info32) ?_
      simp only [Act.put, List.setIfInBounds_toArray, List.set_cons_zero, List.set_cons_succ]
      refine wpList_store_mid rfl 23 _ _ rfl bR 0 (bl e).toArray rfl rfl (by rw [List.size_toArray, bl_length]; exact ht) (by rw [List.size_toArray, bl_length]; exact info32) (all_oneCell_toArray (bl_one _)) ?_
      simp only [Act.put]
      apply wpList_nil
      repeat go_step
      refine bodyPost_ret (v := bv e) (result_cells Tryd.results96 _ _ bR (bl e) ?hp (World.rangeAt_setCells_same _ _ _ _ (by rw [bl_length]; exact ht)) Tryd.underlying23 rfl (by rw [bl_length]; exact info32)) ?hd ?_
      case hp => rfl
      case hd => rfl
      exact ⟨rfl, grown_setCells hf _ _ hW⟩

theorem Er_bytes : ∀ j : Fin 32, by8 Er j.val = if j.val = 0 then 254 else if j.val = 31 then 15 else 255 := by decide +kernel
theorem Fr_bytes : ∀ j : Fin 32, by8 Fr2 j.val = if j.val = 0 then 251 else if j.val = 31 then 31 else 255 := by decide +kernel
theorem ends_E {e : Nat} (he : Hid (e = Er)) (w : World) : Calls Tryd.prog 96 #[.int .u8 254, .int .u8 15] w fun ex w' => ex = .returned (bv e) ∧ Grown w w' := ends_r 254 15 e (fun j hj => by rw [he.out]; exact Er_bytes ⟨j, hj⟩) w
theorem ends_F {f : Nat} (hf : Hid (f = Fr2)) (w : World) : Calls Tryd.prog 96 #[.int .u8 251, .int .u8 31] w fun ex w' => ex = .returned (bv f) ∧ Grown w w' := ends_r 251 31 f (fun j hj => by rw [hf.out]; exact Fr_bytes ⟨j, hj⟩) w
theorem E_S {e : Nat} (he : Hid (e = Er)) : e < S256 := by rw [he.out]; decide +kernel
theorem F_S {f : Nat} (hf : Hid (f = Fr2)) : f < S256 := by rw [hf.out]; decide +kernel

theorem par_one {m : Nat} (h : m % 2 = 1) : d16 m 0 % 2 = 1 := by rw [d16_odd, h]; rfl
theorem par_not {m : Nat} (h : ¬ m % 2 = 1) : ¬ d16 m 0 % 2 = 1 := by rw [d16_odd]; omega
set_option maxRecDepth 100000 in
set_option maxHeartbeats 4000000 in
theorem Root_00 (a e : Nat) (ha : a < S256) (he : Hid (e = Er)) (hs : ((a) ^ (e) % p) * ((a) ^ (e) % p) % p = a) (ho : ¬ ((a) ^ (e) % p) % 2 = 1) (w : World) (hGl0 : Gp w) : Calls Tryd.prog 72 #[sn a] w fun ex w' => ex = .returned (sn ((a) ^ (e) % p)) ∧ Grown w w' := by
  have hW := Grown.refl w
  have hGl := hGl0
  go_enter Tryd.func72, Tryd.ntmps72
  repeat ((fail_if_success (with_reducible show Code.wp _ (Code.region _ _ _) _ _ _)); go_step)
  refine wp_plain [.box 45 (il 16 (d16 (a))), .new 45 16] (by kernel_rfl) (fun β => ?_) (fun β w1 hD => ?_)
  · refine Obs.cons (Ob.box rfl rfl (by kernel_rfl)) ?_
    refine Obs.cons (Ob.new _ rfl rfl zeroS (by simp [il_length])) ?_
    exact Obs.nil
  obtain ⟨hf_b0, hr_b0⟩ := hD.bx 0 _ _ rfl
  replace hf_b0 := Nat.le_trans hW.2.2 hf_b0
  obtain ⟨hf_b1, ht_b1⟩ := hD.nw 1 _ _ rfl
  replace hf_b1 := Nat.le_trans hW.2.2 hf_b1
  have hn_b0_b1 := hD.ap 0 1 _ _ rfl rfl rfl rfl (by decide)
  replace hW := grown_trans hW hD.gr
  clear hD
  simp only [finAct, putAll, valsFrom, Plan.value, Act.put, List.setIfInBounds_toArray, List.set_cons_zero, List.set_cons_succ]
  replace hGl := hGl0.grown hW
  generalize β 0 = b0 at *
  generalize β (0 + 1) = b1 at *
  repeat ((fail_if_success (with_reducible show Code.wp _ (Code.region _ _ _) _ _ _)); go_step)
  refine wp_plain [.val (bv (e)), .new 23 32, .put 1 1 (fun _ => bl (e))] (by kernel_rfl) (fun β => ?_) (fun β w2 hD => ?_)
  · refine Obs.cons (Ob.call 96 #[.int .u8 (254), .int .u8 (15)] rfl (fun w => by kernel_rfl) (fun w hg => ends_E he w)) ?_
    refine Obs.cons (Ob.new _ rfl rfl zero32.1 (by simp [bl_length])) ?_
    refine Obs.cons (Ob.put 23 rfl rfl rfl (by kernel_rfl) (by kernel_rfl) (by rw [bl_length]; exact info32) (bl_one _)) ?_
    exact Obs.nil
  have hn_b0_b2 := ne_of_freshR hr_b0 (hD.nw 1 _ _ rfl).1
  replace hr_b0 := rangeAt_grown hr_b0 hD.gr
  replace ht_b1 := there_grown ht_b1 hD.gr
  obtain ⟨hf_b2, ht_b2⟩ := hD.nw 1 _ _ rfl
  have hr_b2 : w2.rangeAt (β 1) 0 (bl (e)) := hD.rg 2 1 1 (fun _ => bl (e)) rfl
  replace hf_b2 := Nat.le_trans hW.2.2 hf_b2
  replace hW := grown_trans hW hD.gr
  clear hD
  simp only [finAct, putAll, valsFrom, Plan.value, Act.put, List.setIfInBounds_toArray, List.set_cons_zero, List.set_cons_succ]
  replace hGl := hGl0.grown hW
  generalize β (0 + 1) = b2 at *
  repeat ((fail_if_success (with_reducible show Code.wp _ (Code.region _ _ _) _ _ _)); go_step)
  refine wp_plain [.val (sn (a)), .val (bv (e)), .val (sn ((a) ^ (e) % p)), .new 45 16, .put 3 3 (fun _ => il 16 (d16 ((a) ^ (e) % p)))] (by kernel_rfl) (fun β => ?_) (fun β w3 hD => ?_)
  · refine Obs.cons (Ob.load (b0) 0 (il 16 (d16 (a))) rfl rfl (by kernel_rfl) hr_b0 Tryd.underlying45 rfl (by rw [il_length]; exact infoS)) ?_
    refine Obs.cons (Ob.load (b2) 0 (bl (e)) rfl rfl (by kernel_rfl) hr_b2 Tryd.underlying23 rfl (by rw [bl_length]; exact info32)) ?_
    refine Obs.cons (Ob.call 68 #[sn (a), bv (e)] rfl (fun w => by kernel_rfl) (fun w hg => Power_r (a) (e) ha (E_S he) w (hGl.grown hg))) ?_
    refine Obs.cons (Ob.new _ rfl rfl zeroS (by simp [il_length])) ?_
    refine Obs.cons (Ob.put 45 rfl rfl rfl (by kernel_rfl) (by kernel_rfl) (by rw [il_length]; exact infoS) (il_one _ _)) ?_
    exact Obs.nil
  have hn_b0_b3 := ne_of_freshR hr_b0 (hD.nw 3 _ _ rfl).1
  have hn_b2_b3 := ne_of_fresh hr_b2 (hD.nw 3 _ _ rfl).1
  replace hr_b0 := rangeAt_grown hr_b0 hD.gr
  replace hr_b2 := rangeAt_grown hr_b2 hD.gr
  replace ht_b1 := there_grown ht_b1 hD.gr
  replace ht_b2 := there_grown ht_b2 hD.gr
  obtain ⟨hf_b3, ht_b3⟩ := hD.nw 3 _ _ rfl
  have hr_b3 : w3.rangeAt (β 3) 0 (il 16 (d16 ((a) ^ (e) % p))) := hD.rg 4 3 3 (fun _ => il 16 (d16 ((a) ^ (e) % p))) rfl
  replace hf_b3 := Nat.le_trans hW.2.2 hf_b3
  replace hW := grown_trans hW hD.gr
  clear hD
  simp only [finAct, putAll, valsFrom, Plan.value, Act.put, List.setIfInBounds_toArray, List.set_cons_zero, List.set_cons_succ]
  replace hGl := hGl0.grown hW
  generalize β (0 + 1 + 1 + 1) = b3 at *
  repeat ((fail_if_success (with_reducible show Code.wp _ (Code.region _ _ _) _ _ _)); go_step)
  refine wp_plain [.val (sn ((a) ^ (e) % p)), .val (sn ((a) ^ (e) % p)), .val (sn (((a) ^ (e) % p) * ((a) ^ (e) % p) % p)), .new 45 16, .put 3 3 (fun _ => il 16 (d16 (((a) ^ (e) % p) * ((a) ^ (e) % p) % p)))] (by kernel_rfl) (fun β => ?_) (fun β w4 hD => ?_)
  · refine Obs.cons (Ob.load (b3) 0 (il 16 (d16 ((a) ^ (e) % p))) rfl rfl (by kernel_rfl) hr_b3 Tryd.underlying45 rfl (by rw [il_length]; exact infoS)) ?_
    refine Obs.cons (Ob.load (b3) 0 (il 16 (d16 ((a) ^ (e) % p))) rfl rfl (by kernel_rfl) hr_b3 Tryd.underlying45 rfl (by rw [il_length]; exact infoS)) ?_
    refine Obs.cons (Ob.call 63 #[sn ((a) ^ (e) % p), sn ((a) ^ (e) % p)] rfl (fun w => by kernel_rfl) (fun w hg => Times_r ((a) ^ (e) % p) ((a) ^ (e) % p) (mod_S _) (mod_S _) w (hGl.grown hg))) ?_
    refine Obs.cons (Ob.new _ rfl rfl zeroS (by simp [il_length])) ?_
    refine Obs.cons (Ob.put 45 rfl rfl rfl (by kernel_rfl) (by kernel_rfl) (by rw [il_length]; exact infoS) (il_one _ _)) ?_
    exact Obs.nil
  have hn_b0_b4 := ne_of_freshR hr_b0 (hD.nw 3 _ _ rfl).1
  have hn_b2_b4 := ne_of_fresh hr_b2 (hD.nw 3 _ _ rfl).1
  have hn_b3_b4 := ne_of_freshR hr_b3 (hD.nw 3 _ _ rfl).1
  replace hr_b0 := rangeAt_grown hr_b0 hD.gr
  replace hr_b2 := rangeAt_grown hr_b2 hD.gr
  replace hr_b3 := rangeAt_grown hr_b3 hD.gr
  replace ht_b1 := there_grown ht_b1 hD.gr
  replace ht_b2 := there_grown ht_b2 hD.gr
  replace ht_b3 := there_grown ht_b3 hD.gr
  obtain ⟨hf_b4, ht_b4⟩ := hD.nw 3 _ _ rfl
  have hr_b4 : w4.rangeAt (β 3) 0 (il 16 (d16 (((a) ^ (e) % p) * ((a) ^ (e) % p) % p))) := hD.rg 4 3 3 (fun _ => il 16 (d16 (((a) ^ (e) % p) * ((a) ^ (e) % p) % p))) rfl
  replace hf_b4 := Nat.le_trans hW.2.2 hf_b4
  replace hW := grown_trans hW hD.gr
  clear hD
  simp only [finAct, putAll, valsFrom, Plan.value, Act.put, List.setIfInBounds_toArray, List.set_cons_zero, List.set_cons_succ]
  replace hGl := hGl0.grown hW
  generalize β (0 + 1 + 1 + 1) = b4 at *
  repeat ((fail_if_success (with_reducible show Code.wp _ (Code.region _ _ _) _ _ _)); go_step)
  refine wp_plain [.val (sn (((a) ^ (e) % p) * ((a) ^ (e) % p) % p)), .val (sn (a)), .val (.bool true), .imm (.bool true)] (by kernel_rfl) (fun β => ?_) (fun β w5 hD => ?_)
  · refine Obs.cons (Ob.load (b4) 0 (il 16 (d16 (((a) ^ (e) % p) * ((a) ^ (e) % p) % p))) rfl rfl (by kernel_rfl) hr_b4 Tryd.underlying45 rfl (by rw [il_length]; exact infoS)) ?_
    refine Obs.cons (Ob.load (b0) 0 (il 16 (d16 (a))) rfl rfl (by kernel_rfl) hr_b0 Tryd.underlying45 rfl (by rw [il_length]; exact infoS)) ?_
    refine Obs.cons (Ob.call 92 #[sn (((a) ^ (e) % p) * ((a) ^ (e) % p) % p), sn (a)] rfl (fun w => by kernel_rfl) (fun w hg => Same_b (((a) ^ (e) % p) * ((a) ^ (e) % p) % p) (a) (mod_S _) ha true (decide_eq_true hs) w)) ?_
    refine Obs.cons (Ob.imm rfl (fun w => by kernel_rfl)) ?_
    exact Obs.nil
  replace hr_b0 := rangeAt_grown hr_b0 hD.gr
  replace hr_b2 := rangeAt_grown hr_b2 hD.gr
  replace hr_b3 := rangeAt_grown hr_b3 hD.gr
  replace hr_b4 := rangeAt_grown hr_b4 hD.gr
  replace ht_b1 := there_grown ht_b1 hD.gr
  replace ht_b2 := there_grown ht_b2 hD.gr
  replace ht_b3 := there_grown ht_b3 hD.gr
  replace ht_b4 := there_grown ht_b4 hD.gr
  replace hW := grown_trans hW hD.gr
  clear hD
  simp only [finAct, putAll, valsFrom, Plan.value, Act.put, List.setIfInBounds_toArray, List.set_cons_zero, List.set_cons_succ]
  replace hGl := hGl0.grown hW
  repeat ((fail_if_success (with_reducible show Code.wp _ (Code.region _ _ _) _ _ _)); go_step)
  refine wp_plain [.imm (.bool true), .imm (.bool false)] (by kernel_rfl) (fun β => ?_) (fun β w6 hD => ?_)
  · refine Obs.cons (Ob.imm rfl (fun w => by kernel_rfl)) ?_
    refine Obs.cons (Ob.imm rfl (fun w => by kernel_rfl)) ?_
    exact Obs.nil
  replace hr_b0 := rangeAt_grown hr_b0 hD.gr
  replace hr_b2 := rangeAt_grown hr_b2 hD.gr
  replace hr_b3 := rangeAt_grown hr_b3 hD.gr
  replace hr_b4 := rangeAt_grown hr_b4 hD.gr
  replace ht_b1 := there_grown ht_b1 hD.gr
  replace ht_b2 := there_grown ht_b2 hD.gr
  replace ht_b3 := there_grown ht_b3 hD.gr
  replace ht_b4 := there_grown ht_b4 hD.gr
  replace hW := grown_trans hW hD.gr
  clear hD
  simp only [finAct, putAll, valsFrom, Plan.value, Act.put, List.setIfInBounds_toArray, List.set_cons_zero, List.set_cons_succ]
  replace hGl := hGl0.grown hW
  repeat ((fail_if_success (with_reducible show Code.wp _ (Code.region _ _ _) _ _ _)); go_step)
  refine wp_plain [.imm (.pointer (some ⟨b3, 0, none⟩)), .val (.int .i64 (d16 ((a) ^ (e) % p) 0)), .imm (.int .i64 (d16 ((a) ^ (e) % p) 0 % 2)), .imm (.bool false)] (by kernel_rfl) (fun β => ?_) (fun β w7 hD => ?_)
  · refine Obs.cons (Ob.imm rfl (fun w => exec_idxS 0 (by decide) rfl (by kernel_rfl) (by kernel_rfl))) ?_
    refine Obs.cons (Ob.load1 (b3) 0 rfl rfl (by kernel_rfl) (block_lt_of_cell (cell_i hr_b3 (j := 0) (by decide))) (cell_i hr_b3 (by decide)) (fun w h => run_loadI w h)) ?_
    refine Obs.cons (Ob.imm rfl (fun w => exec_remZ (d16 ((a) ^ (e) % p) 0) 2 _ (by decide) (d16_in _ 16 0 (by decide)).1 rfl (by kernel_rfl) (by kernel_rfl) rfl)) ?_
    refine Obs.cons (Ob.imm rfl (fun w => exec_eqlI rfl (d16 ((a) ^ (e) % p) 0 % 2) (1) (by kernel_rfl) (by kernel_rfl) false (decide_eq_false (par_not ho)))) ?_
    exact Obs.nil
  replace hr_b0 := rangeAt_grown hr_b0 hD.gr
  replace hr_b2 := rangeAt_grown hr_b2 hD.gr
  replace hr_b3 := rangeAt_grown hr_b3 hD.gr
  replace hr_b4 := rangeAt_grown hr_b4 hD.gr
  replace ht_b1 := there_grown ht_b1 hD.gr
  replace ht_b2 := there_grown ht_b2 hD.gr
  replace ht_b3 := there_grown ht_b3 hD.gr
  replace ht_b4 := there_grown ht_b4 hD.gr
  replace hW := grown_trans hW hD.gr
  clear hD
  simp only [finAct, putAll, valsFrom, Plan.value, Act.put, List.setIfInBounds_toArray, List.set_cons_zero, List.set_cons_succ]
  replace hGl := hGl0.grown hW
  repeat ((fail_if_success (with_reducible show Code.wp _ (Code.region _ _ _) _ _ _)); go_step)
  refine wp_plain_fin [.val (sn ((a) ^ (e) % p)), .fin] (b1) 0 (fun _ => il 16 (d16 ((a) ^ (e) % p))) (by kernel_rfl) (fun β => ?_) (fun β w8 hD => ?_)
  · refine Obs.cons (Ob.load (b3) 0 (il 16 (d16 ((a) ^ (e) % p))) rfl rfl (by kernel_rfl) hr_b3 Tryd.underlying45 rfl (by rw [il_length]; exact infoS)) ?_
    refine Obs.cons (Ob.fin rfl (by rw [il_length]; exact ht_b1) rfl (by kernel_rfl) (by kernel_rfl) (by rw [il_length]; exact infoS) (il_one _ _)) ?_
    exact Obs.nil
  replace hr_b0 := rangeAt_grown hr_b0 hD.gr
  replace hr_b2 := rangeAt_grown hr_b2 hD.gr
  replace hr_b3 := rangeAt_grown hr_b3 hD.gr
  replace hr_b4 := rangeAt_grown hr_b4 hD.gr
  replace ht_b1 := there_grown ht_b1 hD.gr
  replace ht_b2 := there_grown ht_b2 hD.gr
  replace ht_b3 := there_grown ht_b3 hD.gr
  replace ht_b4 := there_grown ht_b4 hD.gr
  replace hW := grown_trans hW hD.gr
  clear hD
  simp only [finAct, putAll, valsFrom, Plan.value, Act.put, List.setIfInBounds_toArray, List.set_cons_zero, List.set_cons_succ]
  replace hGl := hGl0.grown hW
  have hs8 := World.rangeAt_setCells_same w8 (b1) 0 (il 16 (d16 ((a) ^ (e) % p))) (by rw [il_length]; exact ht_b1)
  replace hW := grown_setCells hf_b1 (il 16 (d16 ((a) ^ (e) % p))) 0 hW
  generalize w8.setCells (b1) 0 (il 16 (d16 ((a) ^ (e) % p))) = w8s at *
  repeat go_step
  refine bodyPost_ret (v := sn ((a) ^ (e) % p)) (result_cells Tryd.results72 _ _ (b1) _ ?hp hs8 Tryd.underlying45 rfl (by rw [il_length]; exact infoS)) ?hd ?_
  case hp => rfl
  case hd => rfl
  exact ⟨rfl, hW⟩

set_option maxRecDepth 100000 in
set_option maxHeartbeats 4000000 in
theorem Root_01 (a e : Nat) (ha : a < S256) (he : Hid (e = Er)) (hs : ((a) ^ (e) % p) * ((a) ^ (e) % p) % p = a) (ho : ((a) ^ (e) % p) % 2 = 1) (w : World) (hGl0 : Gp w) : Calls Tryd.prog 72 #[sn a] w fun ex w' => ex = .returned (sn (sb ((0) % p) ((a) ^ (e) % p))) ∧ Grown w w' := by
  have hW := Grown.refl w
  have hGl := hGl0
  go_enter Tryd.func72, Tryd.ntmps72
  repeat ((fail_if_success (with_reducible show Code.wp _ (Code.region _ _ _) _ _ _)); go_step)
  refine wp_plain [.box 45 (il 16 (d16 (a))), .new 45 16] (by kernel_rfl) (fun β => ?_) (fun β w1 hD => ?_)
  · refine Obs.cons (Ob.box rfl rfl (by kernel_rfl)) ?_
    refine Obs.cons (Ob.new _ rfl rfl zeroS (by simp [il_length])) ?_
    exact Obs.nil
  obtain ⟨hf_b0, hr_b0⟩ := hD.bx 0 _ _ rfl
  replace hf_b0 := Nat.le_trans hW.2.2 hf_b0
  obtain ⟨hf_b1, ht_b1⟩ := hD.nw 1 _ _ rfl
  replace hf_b1 := Nat.le_trans hW.2.2 hf_b1
  have hn_b0_b1 := hD.ap 0 1 _ _ rfl rfl rfl rfl (by decide)
  replace hW := grown_trans hW hD.gr
  clear hD
  simp only [finAct, putAll, valsFrom, Plan.value, Act.put, List.setIfInBounds_toArray, List.set_cons_zero, List.set_cons_succ]
  replace hGl := hGl0.grown hW
  generalize β 0 = b0 at *
  generalize β (0 + 1) = b1 at *
  repeat ((fail_if_success (with_reducible show Code.wp _ (Code.region _ _ _) _ _ _)); go_step)
  refine wp_plain [.val (bv (e)), .new 23 32, .put 1 1 (fun _ => bl (e))] (by kernel_rfl) (fun β => ?_) (fun β w2 hD => ?_)
  · refine Obs.cons (Ob.call 96 #[.int .u8 (254), .int .u8 (15)] rfl (fun w => by kernel_rfl) (fun w hg => ends_E he w)) ?_
    refine Obs.cons (Ob.new _ rfl rfl zero32.1 (by simp [bl_length])) ?_
    refine Obs.cons (Ob.put 23 rfl rfl rfl (by kernel_rfl) (by kernel_rfl) (by rw [bl_length]; exact info32) (bl_one _)) ?_
    exact Obs.nil
  have hn_b0_b2 := ne_of_freshR hr_b0 (hD.nw 1 _ _ rfl).1
  replace hr_b0 := rangeAt_grown hr_b0 hD.gr
  replace ht_b1 := there_grown ht_b1 hD.gr
  obtain ⟨hf_b2, ht_b2⟩ := hD.nw 1 _ _ rfl
  have hr_b2 : w2.rangeAt (β 1) 0 (bl (e)) := hD.rg 2 1 1 (fun _ => bl (e)) rfl
  replace hf_b2 := Nat.le_trans hW.2.2 hf_b2
  replace hW := grown_trans hW hD.gr
  clear hD
  simp only [finAct, putAll, valsFrom, Plan.value, Act.put, List.setIfInBounds_toArray, List.set_cons_zero, List.set_cons_succ]
  replace hGl := hGl0.grown hW
  generalize β (0 + 1) = b2 at *
  repeat ((fail_if_success (with_reducible show Code.wp _ (Code.region _ _ _) _ _ _)); go_step)
  refine wp_plain [.val (sn (a)), .val (bv (e)), .val (sn ((a) ^ (e) % p)), .new 45 16, .put 3 3 (fun _ => il 16 (d16 ((a) ^ (e) % p)))] (by kernel_rfl) (fun β => ?_) (fun β w3 hD => ?_)
  · refine Obs.cons (Ob.load (b0) 0 (il 16 (d16 (a))) rfl rfl (by kernel_rfl) hr_b0 Tryd.underlying45 rfl (by rw [il_length]; exact infoS)) ?_
    refine Obs.cons (Ob.load (b2) 0 (bl (e)) rfl rfl (by kernel_rfl) hr_b2 Tryd.underlying23 rfl (by rw [bl_length]; exact info32)) ?_
    refine Obs.cons (Ob.call 68 #[sn (a), bv (e)] rfl (fun w => by kernel_rfl) (fun w hg => Power_r (a) (e) ha (E_S he) w (hGl.grown hg))) ?_
    refine Obs.cons (Ob.new _ rfl rfl zeroS (by simp [il_length])) ?_
    refine Obs.cons (Ob.put 45 rfl rfl rfl (by kernel_rfl) (by kernel_rfl) (by rw [il_length]; exact infoS) (il_one _ _)) ?_
    exact Obs.nil
  have hn_b0_b3 := ne_of_freshR hr_b0 (hD.nw 3 _ _ rfl).1
  have hn_b2_b3 := ne_of_fresh hr_b2 (hD.nw 3 _ _ rfl).1
  replace hr_b0 := rangeAt_grown hr_b0 hD.gr
  replace hr_b2 := rangeAt_grown hr_b2 hD.gr
  replace ht_b1 := there_grown ht_b1 hD.gr
  replace ht_b2 := there_grown ht_b2 hD.gr
  obtain ⟨hf_b3, ht_b3⟩ := hD.nw 3 _ _ rfl
  have hr_b3 : w3.rangeAt (β 3) 0 (il 16 (d16 ((a) ^ (e) % p))) := hD.rg 4 3 3 (fun _ => il 16 (d16 ((a) ^ (e) % p))) rfl
  replace hf_b3 := Nat.le_trans hW.2.2 hf_b3
  replace hW := grown_trans hW hD.gr
  clear hD
  simp only [finAct, putAll, valsFrom, Plan.value, Act.put, List.setIfInBounds_toArray, List.set_cons_zero, List.set_cons_succ]
  replace hGl := hGl0.grown hW
  generalize β (0 + 1 + 1 + 1) = b3 at *
  repeat ((fail_if_success (with_reducible show Code.wp _ (Code.region _ _ _) _ _ _)); go_step)
  refine wp_plain [.val (sn ((a) ^ (e) % p)), .val (sn ((a) ^ (e) % p)), .val (sn (((a) ^ (e) % p) * ((a) ^ (e) % p) % p)), .new 45 16, .put 3 3 (fun _ => il 16 (d16 (((a) ^ (e) % p) * ((a) ^ (e) % p) % p)))] (by kernel_rfl) (fun β => ?_) (fun β w4 hD => ?_)
  · refine Obs.cons (Ob.load (b3) 0 (il 16 (d16 ((a) ^ (e) % p))) rfl rfl (by kernel_rfl) hr_b3 Tryd.underlying45 rfl (by rw [il_length]; exact infoS)) ?_
    refine Obs.cons (Ob.load (b3) 0 (il 16 (d16 ((a) ^ (e) % p))) rfl rfl (by kernel_rfl) hr_b3 Tryd.underlying45 rfl (by rw [il_length]; exact infoS)) ?_
    refine Obs.cons (Ob.call 63 #[sn ((a) ^ (e) % p), sn ((a) ^ (e) % p)] rfl (fun w => by kernel_rfl) (fun w hg => Times_r ((a) ^ (e) % p) ((a) ^ (e) % p) (mod_S _) (mod_S _) w (hGl.grown hg))) ?_
    refine Obs.cons (Ob.new _ rfl rfl zeroS (by simp [il_length])) ?_
    refine Obs.cons (Ob.put 45 rfl rfl rfl (by kernel_rfl) (by kernel_rfl) (by rw [il_length]; exact infoS) (il_one _ _)) ?_
    exact Obs.nil
  have hn_b0_b4 := ne_of_freshR hr_b0 (hD.nw 3 _ _ rfl).1
  have hn_b2_b4 := ne_of_fresh hr_b2 (hD.nw 3 _ _ rfl).1
  have hn_b3_b4 := ne_of_freshR hr_b3 (hD.nw 3 _ _ rfl).1
  replace hr_b0 := rangeAt_grown hr_b0 hD.gr
  replace hr_b2 := rangeAt_grown hr_b2 hD.gr
  replace hr_b3 := rangeAt_grown hr_b3 hD.gr
  replace ht_b1 := there_grown ht_b1 hD.gr
  replace ht_b2 := there_grown ht_b2 hD.gr
  replace ht_b3 := there_grown ht_b3 hD.gr
  obtain ⟨hf_b4, ht_b4⟩ := hD.nw 3 _ _ rfl
  have hr_b4 : w4.rangeAt (β 3) 0 (il 16 (d16 (((a) ^ (e) % p) * ((a) ^ (e) % p) % p))) := hD.rg 4 3 3 (fun _ => il 16 (d16 (((a) ^ (e) % p) * ((a) ^ (e) % p) % p))) rfl
  replace hf_b4 := Nat.le_trans hW.2.2 hf_b4
  replace hW := grown_trans hW hD.gr
  clear hD
  simp only [finAct, putAll, valsFrom, Plan.value, Act.put, List.setIfInBounds_toArray, List.set_cons_zero, List.set_cons_succ]
  replace hGl := hGl0.grown hW
  generalize β (0 + 1 + 1 + 1) = b4 at *
  repeat ((fail_if_success (with_reducible show Code.wp _ (Code.region _ _ _) _ _ _)); go_step)
  refine wp_plain [.val (sn (((a) ^ (e) % p) * ((a) ^ (e) % p) % p)), .val (sn (a)), .val (.bool true), .imm (.bool true)] (by kernel_rfl) (fun β => ?_) (fun β w5 hD => ?_)
  · refine Obs.cons (Ob.load (b4) 0 (il 16 (d16 (((a) ^ (e) % p) * ((a) ^ (e) % p) % p))) rfl rfl (by kernel_rfl) hr_b4 Tryd.underlying45 rfl (by rw [il_length]; exact infoS)) ?_
    refine Obs.cons (Ob.load (b0) 0 (il 16 (d16 (a))) rfl rfl (by kernel_rfl) hr_b0 Tryd.underlying45 rfl (by rw [il_length]; exact infoS)) ?_
    refine Obs.cons (Ob.call 92 #[sn (((a) ^ (e) % p) * ((a) ^ (e) % p) % p), sn (a)] rfl (fun w => by kernel_rfl) (fun w hg => Same_b (((a) ^ (e) % p) * ((a) ^ (e) % p) % p) (a) (mod_S _) ha true (decide_eq_true hs) w)) ?_
    refine Obs.cons (Ob.imm rfl (fun w => by kernel_rfl)) ?_
    exact Obs.nil
  replace hr_b0 := rangeAt_grown hr_b0 hD.gr
  replace hr_b2 := rangeAt_grown hr_b2 hD.gr
  replace hr_b3 := rangeAt_grown hr_b3 hD.gr
  replace hr_b4 := rangeAt_grown hr_b4 hD.gr
  replace ht_b1 := there_grown ht_b1 hD.gr
  replace ht_b2 := there_grown ht_b2 hD.gr
  replace ht_b3 := there_grown ht_b3 hD.gr
  replace ht_b4 := there_grown ht_b4 hD.gr
  replace hW := grown_trans hW hD.gr
  clear hD
  simp only [finAct, putAll, valsFrom, Plan.value, Act.put, List.setIfInBounds_toArray, List.set_cons_zero, List.set_cons_succ]
  replace hGl := hGl0.grown hW
  repeat ((fail_if_success (with_reducible show Code.wp _ (Code.region _ _ _) _ _ _)); go_step)
  refine wp_plain [.imm (.bool true), .imm (.bool false)] (by kernel_rfl) (fun β => ?_) (fun β w6 hD => ?_)
  · refine Obs.cons (Ob.imm rfl (fun w => by kernel_rfl)) ?_
    refine Obs.cons (Ob.imm rfl (fun w => by kernel_rfl)) ?_
    exact Obs.nil
  replace hr_b0 := rangeAt_grown hr_b0 hD.gr
  replace hr_b2 := rangeAt_grown hr_b2 hD.gr
  replace hr_b3 := rangeAt_grown hr_b3 hD.gr
  replace hr_b4 := rangeAt_grown hr_b4 hD.gr
  replace ht_b1 := there_grown ht_b1 hD.gr
  replace ht_b2 := there_grown ht_b2 hD.gr
  replace ht_b3 := there_grown ht_b3 hD.gr
  replace ht_b4 := there_grown ht_b4 hD.gr
  replace hW := grown_trans hW hD.gr
  clear hD
  simp only [finAct, putAll, valsFrom, Plan.value, Act.put, List.setIfInBounds_toArray, List.set_cons_zero, List.set_cons_succ]
  replace hGl := hGl0.grown hW
  repeat ((fail_if_success (with_reducible show Code.wp _ (Code.region _ _ _) _ _ _)); go_step)
  refine wp_plain [.imm (.pointer (some ⟨b3, 0, none⟩)), .val (.int .i64 (d16 ((a) ^ (e) % p) 0)), .imm (.int .i64 (d16 ((a) ^ (e) % p) 0 % 2)), .imm (.bool true)] (by kernel_rfl) (fun β => ?_) (fun β w7 hD => ?_)
  · refine Obs.cons (Ob.imm rfl (fun w => exec_idxS 0 (by decide) rfl (by kernel_rfl) (by kernel_rfl))) ?_
    refine Obs.cons (Ob.load1 (b3) 0 rfl rfl (by kernel_rfl) (block_lt_of_cell (cell_i hr_b3 (j := 0) (by decide))) (cell_i hr_b3 (by decide)) (fun w h => run_loadI w h)) ?_
    refine Obs.cons (Ob.imm rfl (fun w => exec_remZ (d16 ((a) ^ (e) % p) 0) 2 _ (by decide) (d16_in _ 16 0 (by decide)).1 rfl (by kernel_rfl) (by kernel_rfl) rfl)) ?_
    refine Obs.cons (Ob.imm rfl (fun w => exec_eqlI rfl (d16 ((a) ^ (e) % p) 0 % 2) (1) (by kernel_rfl) (by kernel_rfl) true (decide_eq_true (par_one ho)))) ?_
    exact Obs.nil
  replace hr_b0 := rangeAt_grown hr_b0 hD.gr
  replace hr_b2 := rangeAt_grown hr_b2 hD.gr
  replace hr_b3 := rangeAt_grown hr_b3 hD.gr
  replace hr_b4 := rangeAt_grown hr_b4 hD.gr
  replace ht_b1 := there_grown ht_b1 hD.gr
  replace ht_b2 := there_grown ht_b2 hD.gr
  replace ht_b3 := there_grown ht_b3 hD.gr
  replace ht_b4 := there_grown ht_b4 hD.gr
  replace hW := grown_trans hW hD.gr
  clear hD
  simp only [finAct, putAll, valsFrom, Plan.value, Act.put, List.setIfInBounds_toArray, List.set_cons_zero, List.set_cons_succ]
  replace hGl := hGl0.grown hW
  repeat ((fail_if_success (with_reducible show Code.wp _ (Code.region _ _ _) _ _ _)); go_step)
  refine wp_plain [.val (sn (0)), .new 45 16, .put 1 1 (fun _ => il 16 (d16 (0)))] (by kernel_rfl) (fun β => ?_) (fun β w8 hD => ?_)
  · refine Obs.cons (Ob.call 39 #[.int .i64 (0)] rfl (fun w => by kernel_rfl) (fun w hg => Small_r 0 (by decide) 0 rfl w)) ?_
    refine Obs.cons (Ob.new _ rfl rfl zeroS (by simp [il_length])) ?_
    refine Obs.cons (Ob.put 45 rfl rfl rfl (by kernel_rfl) (by kernel_rfl) (by rw [il_length]; exact infoS) (il_one _ _)) ?_
    exact Obs.nil
  have hn_b0_b5 := ne_of_freshR hr_b0 (hD.nw 1 _ _ rfl).1
  have hn_b2_b5 := ne_of_fresh hr_b2 (hD.nw 1 _ _ rfl).1
  have hn_b3_b5 := ne_of_freshR hr_b3 (hD.nw 1 _ _ rfl).1
  have hn_b4_b5 := ne_of_freshR hr_b4 (hD.nw 1 _ _ rfl).1
  replace hr_b0 := rangeAt_grown hr_b0 hD.gr
  replace hr_b2 := rangeAt_grown hr_b2 hD.gr
  replace hr_b3 := rangeAt_grown hr_b3 hD.gr
  replace hr_b4 := rangeAt_grown hr_b4 hD.gr
  replace ht_b1 := there_grown ht_b1 hD.gr
  replace ht_b2 := there_grown ht_b2 hD.gr
  replace ht_b3 := there_grown ht_b3 hD.gr
  replace ht_b4 := there_grown ht_b4 hD.gr
  obtain ⟨hf_b5, ht_b5⟩ := hD.nw 1 _ _ rfl
  have hr_b5 : w8.rangeAt (β 1) 0 (il 16 (d16 (0))) := hD.rg 2 1 1 (fun _ => il 16 (d16 (0))) rfl
  replace hf_b5 := Nat.le_trans hW.2.2 hf_b5
  replace hW := grown_trans hW hD.gr
  clear hD
  simp only [finAct, putAll, valsFrom, Plan.value, Act.put, List.setIfInBounds_toArray, List.set_cons_zero, List.set_cons_succ]
  replace hGl := hGl0.grown hW
  generalize β (0 + 1) = b5 at *
  repeat ((fail_if_success (with_reducible show Code.wp _ (Code.region _ _ _) _ _ _)); go_step)
  refine wp_plain_fin [.val (sn (0)), .val (sn ((a) ^ (e) % p)), .val (sn (sb ((0) % p) ((a) ^ (e) % p))), .fin] (b3) 0 (fun _ => il 16 (d16 (sb ((0) % p) ((a) ^ (e) % p)))) (by kernel_rfl) (fun β => ?_) (fun β w9 hD => ?_)
  · refine Obs.cons (Ob.load (b5) 0 (il 16 (d16 (0))) rfl rfl (by kernel_rfl) hr_b5 Tryd.underlying45 rfl (by rw [il_length]; exact infoS)) ?_
    refine Obs.cons (Ob.load (b3) 0 (il 16 (d16 ((a) ^ (e) % p))) rfl rfl (by kernel_rfl) hr_b3 Tryd.underlying45 rfl (by rw [il_length]; exact infoS)) ?_
    refine Obs.cons (Ob.call 66 #[sn (0), sn ((a) ^ (e) % p)] rfl (fun w => by kernel_rfl) (fun w hg => Minus_r (0) ((a) ^ (e) % p) (by decide) (mod_S _) w (hGl.grown hg))) ?_
    refine Obs.cons (Ob.fin rfl (by rw [il_length]; exact ht_b3) rfl (by kernel_rfl) (by kernel_rfl) (by rw [il_length]; exact infoS) (il_one _ _)) ?_
    exact Obs.nil
  replace hr_b0 := rangeAt_grown hr_b0 hD.gr
  replace hr_b2 := rangeAt_grown hr_b2 hD.gr
  replace hr_b3 := rangeAt_grown hr_b3 hD.gr
  replace hr_b4 := rangeAt_grown hr_b4 hD.gr
  replace hr_b5 := rangeAt_grown hr_b5 hD.gr
  replace ht_b1 := there_grown ht_b1 hD.gr
  replace ht_b2 := there_grown ht_b2 hD.gr
  replace ht_b3 := there_grown ht_b3 hD.gr
  replace ht_b4 := there_grown ht_b4 hD.gr
  replace ht_b5 := there_grown ht_b5 hD.gr
  replace hW := grown_trans hW hD.gr
  clear hD
  simp only [finAct, putAll, valsFrom, Plan.value, Act.put, List.setIfInBounds_toArray, List.set_cons_zero, List.set_cons_succ]
  replace hGl := hGl0.grown hW
  have hs9 := World.rangeAt_setCells_same w9 (b3) 0 (il 16 (d16 (sb ((0) % p) ((a) ^ (e) % p)))) (by rw [il_length]; exact ht_b3)
  replace hW := grown_setCells hf_b3 (il 16 (d16 (sb ((0) % p) ((a) ^ (e) % p)))) 0 hW
  replace hr_b0 := World.rangeAt_setCells_apart hr_b0 (b3) 0 (il 16 (d16 (sb ((0) % p) ((a) ^ (e) % p)))) (.inl (hn_b0_b3))
  replace hr_b2 := World.rangeAt_setCells_apart hr_b2 (b3) 0 (il 16 (d16 (sb ((0) % p) ((a) ^ (e) % p)))) (.inl (hn_b2_b3))
  replace hr_b4 := World.rangeAt_setCells_apart hr_b4 (b3) 0 (il 16 (d16 (sb ((0) % p) ((a) ^ (e) % p)))) (.inl (Ne.symm hn_b3_b4))
  replace hr_b5 := World.rangeAt_setCells_apart hr_b5 (b3) 0 (il 16 (d16 (sb ((0) % p) ((a) ^ (e) % p)))) (.inl (Ne.symm hn_b3_b5))
  replace ht_b1 := World.there_setCells ht_b1 (b3) 0 (il 16 (d16 (sb ((0) % p) ((a) ^ (e) % p))))
  replace ht_b2 := World.there_setCells ht_b2 (b3) 0 (il 16 (d16 (sb ((0) % p) ((a) ^ (e) % p))))
  replace ht_b3 := World.there_setCells ht_b3 (b3) 0 (il 16 (d16 (sb ((0) % p) ((a) ^ (e) % p))))
  replace ht_b4 := World.there_setCells ht_b4 (b3) 0 (il 16 (d16 (sb ((0) % p) ((a) ^ (e) % p))))
  replace ht_b5 := World.there_setCells ht_b5 (b3) 0 (il 16 (d16 (sb ((0) % p) ((a) ^ (e) % p))))
  replace hGl := hGl0.grown hW
  generalize w9.setCells (b3) 0 (il 16 (d16 (sb ((0) % p) ((a) ^ (e) % p)))) = w9s at *
  repeat ((fail_if_success (with_reducible show Code.wp _ (Code.region _ _ _) _ _ _)); go_step)
  refine wp_plain_fin [.val (sn (sb ((0) % p) ((a) ^ (e) % p))), .fin] (b1) 0 (fun _ => il 16 (d16 (sb ((0) % p) ((a) ^ (e) % p)))) (by kernel_rfl) (fun β => ?_) (fun β w10 hD => ?_)
  · refine Obs.cons (Ob.load (b3) 0 (il 16 (d16 (sb ((0) % p) ((a) ^ (e) % p)))) rfl rfl (by kernel_rfl) hs9 Tryd.underlying45 rfl (by rw [il_length]; exact infoS)) ?_
    refine Obs.cons (Ob.fin rfl (by rw [il_length]; exact ht_b1) rfl (by kernel_rfl) (by kernel_rfl) (by rw [il_length]; exact infoS) (il_one _ _)) ?_
    exact Obs.nil
  replace hr_b0 := rangeAt_grown hr_b0 hD.gr
  replace hr_b2 := rangeAt_grown hr_b2 hD.gr
  replace hr_b4 := rangeAt_grown hr_b4 hD.gr
  replace hr_b5 := rangeAt_grown hr_b5 hD.gr
  replace hs9 := rangeAt_grown hs9 hD.gr
  replace ht_b1 := there_grown ht_b1 hD.gr
  replace ht_b2 := there_grown ht_b2 hD.gr
  replace ht_b3 := there_grown ht_b3 hD.gr
  replace ht_b4 := there_grown ht_b4 hD.gr
  replace ht_b5 := there_grown ht_b5 hD.gr
  replace hW := grown_trans hW hD.gr
  clear hD
  simp only [finAct, putAll, valsFrom, Plan.value, Act.put, List.setIfInBounds_toArray, List.set_cons_zero, List.set_cons_succ]
  replace hGl := hGl0.grown hW
  have hs10 := World.rangeAt_setCells_same w10 (b1) 0 (il 16 (d16 (sb ((0) % p) ((a) ^ (e) % p)))) (by rw [il_length]; exact ht_b1)
  replace hW := grown_setCells hf_b1 (il 16 (d16 (sb ((0) % p) ((a) ^ (e) % p)))) 0 hW
  generalize w10.setCells (b1) 0 (il 16 (d16 (sb ((0) % p) ((a) ^ (e) % p)))) = w10s at *
  repeat go_step
  refine bodyPost_ret (v := sn (sb ((0) % p) ((a) ^ (e) % p))) (result_cells Tryd.results72 _ _ (b1) _ ?hp hs10 Tryd.underlying45 rfl (by rw [il_length]; exact infoS)) ?hd ?_
  case hp => rfl
  case hd => rfl
  exact ⟨rfl, hW⟩

set_option maxRecDepth 100000 in
set_option maxHeartbeats 4000000 in
theorem Root_10 (a e f : Nat) (ha : a < S256) (he : Hid (e = Er)) (hf : Hid (f = Fr2)) (hs : ¬ ((a) ^ (e) % p) * ((a) ^ (e) % p) % p = a) (ho : ¬ (((a) ^ (e) % p) * ((2) ^ (f) % p) % p) % 2 = 1) (w : World) (hGl0 : Gp w) : Calls Tryd.prog 72 #[sn a] w fun ex w' => ex = .returned (sn (((a) ^ (e) % p) * ((2) ^ (f) % p) % p)) ∧ Grown w w' := by
  have hW := Grown.refl w
  have hGl := hGl0
  go_enter Tryd.func72, Tryd.ntmps72
  repeat ((fail_if_success (with_reducible show Code.wp _ (Code.region _ _ _) _ _ _)); go_step)
  refine wp_plain [.box 45 (il 16 (d16 (a))), .new 45 16] (by kernel_rfl) (fun β => ?_) (fun β w1 hD => ?_)
  · refine Obs.cons (Ob.box rfl rfl (by kernel_rfl)) ?_
    refine Obs.cons (Ob.new _ rfl rfl zeroS (by simp [il_length])) ?_
    exact Obs.nil
  obtain ⟨hf_b0, hr_b0⟩ := hD.bx 0 _ _ rfl
  replace hf_b0 := Nat.le_trans hW.2.2 hf_b0
  obtain ⟨hf_b1, ht_b1⟩ := hD.nw 1 _ _ rfl
  replace hf_b1 := Nat.le_trans hW.2.2 hf_b1
  have hn_b0_b1 := hD.ap 0 1 _ _ rfl rfl rfl rfl (by decide)
  replace hW := grown_trans hW hD.gr
  clear hD
  simp only [finAct, putAll, valsFrom, Plan.value, Act.put, List.setIfInBounds_toArray, List.set_cons_zero, List.set_cons_succ]
  replace hGl := hGl0.grown hW
  generalize β 0 = b0 at *
  generalize β (0 + 1) = b1 at *
  repeat ((fail_if_success (with_reducible show Code.wp _ (Code.region _ _ _) _ _ _)); go_step)
  refine wp_plain [.val (bv (e)), .new 23 32, .put 1 1 (fun _ => bl (e))] (by kernel_rfl) (fun β => ?_) (fun β w2 hD => ?_)
  · refine Obs.cons (Ob.call 96 #[.int .u8 (254), .int .u8 (15)] rfl (fun w => by kernel_rfl) (fun w hg => ends_E he w)) ?_
    refine Obs.cons (Ob.new _ rfl rfl zero32.1 (by simp [bl_length])) ?_
    refine Obs.cons (Ob.put 23 rfl rfl rfl (by kernel_rfl) (by kernel_rfl) (by rw [bl_length]; exact info32) (bl_one _)) ?_
    exact Obs.nil
  have hn_b0_b2 := ne_of_freshR hr_b0 (hD.nw 1 _ _ rfl).1
  replace hr_b0 := rangeAt_grown hr_b0 hD.gr
  replace ht_b1 := there_grown ht_b1 hD.gr
  obtain ⟨hf_b2, ht_b2⟩ := hD.nw 1 _ _ rfl
  have hr_b2 : w2.rangeAt (β 1) 0 (bl (e)) := hD.rg 2 1 1 (fun _ => bl (e)) rfl
  replace hf_b2 := Nat.le_trans hW.2.2 hf_b2
  replace hW := grown_trans hW hD.gr
  clear hD
  simp only [finAct, putAll, valsFrom, Plan.value, Act.put, List.setIfInBounds_toArray, List.set_cons_zero, List.set_cons_succ]
  replace hGl := hGl0.grown hW
  generalize β (0 + 1) = b2 at *
  repeat ((fail_if_success (with_reducible show Code.wp _ (Code.region _ _ _) _ _ _)); go_step)
  refine wp_plain [.val (sn (a)), .val (bv (e)), .val (sn ((a) ^ (e) % p)), .new 45 16, .put 3 3 (fun _ => il 16 (d16 ((a) ^ (e) % p)))] (by kernel_rfl) (fun β => ?_) (fun β w3 hD => ?_)
  · refine Obs.cons (Ob.load (b0) 0 (il 16 (d16 (a))) rfl rfl (by kernel_rfl) hr_b0 Tryd.underlying45 rfl (by rw [il_length]; exact infoS)) ?_
    refine Obs.cons (Ob.load (b2) 0 (bl (e)) rfl rfl (by kernel_rfl) hr_b2 Tryd.underlying23 rfl (by rw [bl_length]; exact info32)) ?_
    refine Obs.cons (Ob.call 68 #[sn (a), bv (e)] rfl (fun w => by kernel_rfl) (fun w hg => Power_r (a) (e) ha (E_S he) w (hGl.grown hg))) ?_
    refine Obs.cons (Ob.new _ rfl rfl zeroS (by simp [il_length])) ?_
    refine Obs.cons (Ob.put 45 rfl rfl rfl (by kernel_rfl) (by kernel_rfl) (by rw [il_length]; exact infoS) (il_one _ _)) ?_
    exact Obs.nil
  have hn_b0_b3 := ne_of_freshR hr_b0 (hD.nw 3 _ _ rfl).1
  have hn_b2_b3 := ne_of_fresh hr_b2 (hD.nw 3 _ _ rfl).1
  replace hr_b0 := rangeAt_grown hr_b0 hD.gr
  replace hr_b2 := rangeAt_grown hr_b2 hD.gr
  replace ht_b1 := there_grown ht_b1 hD.gr
  replace ht_b2 := there_grown ht_b2 hD.gr
  obtain ⟨hf_b3, ht_b3⟩ := hD.nw 3 _ _ rfl
  have hr_b3 : w3.rangeAt (β 3) 0 (il 16 (d16 ((a) ^ (e) % p))) := hD.rg 4 3 3 (fun _ => il 16 (d16 ((a) ^ (e) % p))) rfl
  replace hf_b3 := Nat.le_trans hW.2.2 hf_b3
  replace hW := grown_trans hW hD.gr
  clear hD
  simp only [finAct, putAll, valsFrom, Plan.value, Act.put, List.setIfInBounds_toArray, List.set_cons_zero, List.set_cons_succ]
  replace hGl := hGl0.grown hW
  generalize β (0 + 1 + 1 + 1) = b3 at *
  repeat ((fail_if_success (with_reducible show Code.wp _ (Code.region _ _ _) _ _ _)); go_step)
  refine wp_plain [.val (sn ((a) ^ (e) % p)), .val (sn ((a) ^ (e) % p)), .val (sn (((a) ^ (e) % p) * ((a) ^ (e) % p) % p)), .new 45 16, .put 3 3 (fun _ => il 16 (d16 (((a) ^ (e) % p) * ((a) ^ (e) % p) % p)))] (by kernel_rfl) (fun β => ?_) (fun β w4 hD => ?_)
  · refine Obs.cons (Ob.load (b3) 0 (il 16 (d16 ((a) ^ (e) % p))) rfl rfl (by kernel_rfl) hr_b3 Tryd.underlying45 rfl (by rw [il_length]; exact infoS)) ?_
    refine Obs.cons (Ob.load (b3) 0 (il 16 (d16 ((a) ^ (e) % p))) rfl rfl (by kernel_rfl) hr_b3 Tryd.underlying45 rfl (by rw [il_length]; exact infoS)) ?_
    refine Obs.cons (Ob.call 63 #[sn ((a) ^ (e) % p), sn ((a) ^ (e) % p)] rfl (fun w => by kernel_rfl) (fun w hg => Times_r ((a) ^ (e) % p) ((a) ^ (e) % p) (mod_S _) (mod_S _) w (hGl.grown hg))) ?_
    refine Obs.cons (Ob.new _ rfl rfl zeroS (by simp [il_length])) ?_
    refine Obs.cons (Ob.put 45 rfl rfl rfl (by kernel_rfl) (by kernel_rfl) (by rw [il_length]; exact infoS) (il_one _ _)) ?_
    exact Obs.nil
  have hn_b0_b4 := ne_of_freshR hr_b0 (hD.nw 3 _ _ rfl).1
  have hn_b2_b4 := ne_of_fresh hr_b2 (hD.nw 3 _ _ rfl).1
  have hn_b3_b4 := ne_of_freshR hr_b3 (hD.nw 3 _ _ rfl).1
  replace hr_b0 := rangeAt_grown hr_b0 hD.gr
  replace hr_b2 := rangeAt_grown hr_b2 hD.gr
  replace hr_b3 := rangeAt_grown hr_b3 hD.gr
  replace ht_b1 := there_grown ht_b1 hD.gr
  replace ht_b2 := there_grown ht_b2 hD.gr
  replace ht_b3 := there_grown ht_b3 hD.gr
  obtain ⟨hf_b4, ht_b4⟩ := hD.nw 3 _ _ rfl
  have hr_b4 : w4.rangeAt (β 3) 0 (il 16 (d16 (((a) ^ (e) % p) * ((a) ^ (e) % p) % p))) := hD.rg 4 3 3 (fun _ => il 16 (d16 (((a) ^ (e) % p) * ((a) ^ (e) % p) % p))) rfl
  replace hf_b4 := Nat.le_trans hW.2.2 hf_b4
  replace hW := grown_trans hW hD.gr
  clear hD
  simp only [finAct, putAll, valsFrom, Plan.value, Act.put, List.setIfInBounds_toArray, List.set_cons_zero, List.set_cons_succ]
  replace hGl := hGl0.grown hW
  generalize β (0 + 1 + 1 + 1) = b4 at *
  repeat ((fail_if_success (with_reducible show Code.wp _ (Code.region _ _ _) _ _ _)); go_step)
  refine wp_plain [.val (sn (((a) ^ (e) % p) * ((a) ^ (e) % p) % p)), .val (sn (a)), .val (.bool false), .imm (.bool false)] (by kernel_rfl) (fun β => ?_) (fun β w5 hD => ?_)
  · refine Obs.cons (Ob.load (b4) 0 (il 16 (d16 (((a) ^ (e) % p) * ((a) ^ (e) % p) % p))) rfl rfl (by kernel_rfl) hr_b4 Tryd.underlying45 rfl (by rw [il_length]; exact infoS)) ?_
    refine Obs.cons (Ob.load (b0) 0 (il 16 (d16 (a))) rfl rfl (by kernel_rfl) hr_b0 Tryd.underlying45 rfl (by rw [il_length]; exact infoS)) ?_
    refine Obs.cons (Ob.call 92 #[sn (((a) ^ (e) % p) * ((a) ^ (e) % p) % p), sn (a)] rfl (fun w => by kernel_rfl) (fun w hg => Same_b (((a) ^ (e) % p) * ((a) ^ (e) % p) % p) (a) (mod_S _) ha false (decide_eq_false hs) w)) ?_
    refine Obs.cons (Ob.imm rfl (fun w => by kernel_rfl)) ?_
    exact Obs.nil
  replace hr_b0 := rangeAt_grown hr_b0 hD.gr
  replace hr_b2 := rangeAt_grown hr_b2 hD.gr
  replace hr_b3 := rangeAt_grown hr_b3 hD.gr
  replace hr_b4 := rangeAt_grown hr_b4 hD.gr
  replace ht_b1 := there_grown ht_b1 hD.gr
  replace ht_b2 := there_grown ht_b2 hD.gr
  replace ht_b3 := there_grown ht_b3 hD.gr
  replace ht_b4 := there_grown ht_b4 hD.gr
  replace hW := grown_trans hW hD.gr
  clear hD
  simp only [finAct, putAll, valsFrom, Plan.value, Act.put, List.setIfInBounds_toArray, List.set_cons_zero, List.set_cons_succ]
  replace hGl := hGl0.grown hW
  repeat ((fail_if_success (with_reducible show Code.wp _ (Code.region _ _ _) _ _ _)); go_step)
  refine wp_plain [.imm (.bool false), .imm (.bool true)] (by kernel_rfl) (fun β => ?_) (fun β w6 hD => ?_)
  · refine Obs.cons (Ob.imm rfl (fun w => by kernel_rfl)) ?_
    refine Obs.cons (Ob.imm rfl (fun w => by kernel_rfl)) ?_
    exact Obs.nil
  replace hr_b0 := rangeAt_grown hr_b0 hD.gr
  replace hr_b2 := rangeAt_grown hr_b2 hD.gr
  replace hr_b3 := rangeAt_grown hr_b3 hD.gr
  replace hr_b4 := rangeAt_grown hr_b4 hD.gr
  replace ht_b1 := there_grown ht_b1 hD.gr
  replace ht_b2 := there_grown ht_b2 hD.gr
  replace ht_b3 := there_grown ht_b3 hD.gr
  replace ht_b4 := there_grown ht_b4 hD.gr
  replace hW := grown_trans hW hD.gr
  clear hD
  simp only [finAct, putAll, valsFrom, Plan.value, Act.put, List.setIfInBounds_toArray, List.set_cons_zero, List.set_cons_succ]
  replace hGl := hGl0.grown hW
  repeat ((fail_if_success (with_reducible show Code.wp _ (Code.region _ _ _) _ _ _)); go_step)
  refine wp_plain [.val (sn (2)), .new 45 16, .put 1 1 (fun _ => il 16 (d16 (2)))] (by kernel_rfl) (fun β => ?_) (fun β w7 hD => ?_)
  · refine Obs.cons (Ob.call 39 #[.int .i64 (2)] rfl (fun w => by kernel_rfl) (fun w hg => Small_r 2 (by decide) 2 rfl w)) ?_
    refine Obs.cons (Ob.new _ rfl rfl zeroS (by simp [il_length])) ?_
    refine Obs.cons (Ob.put 45 rfl rfl rfl (by kernel_rfl) (by kernel_rfl) (by rw [il_length]; exact infoS) (il_one _ _)) ?_
    exact Obs.nil
  have hn_b0_b5 := ne_of_freshR hr_b0 (hD.nw 1 _ _ rfl).1
  have hn_b2_b5 := ne_of_fresh hr_b2 (hD.nw 1 _ _ rfl).1
  have hn_b3_b5 := ne_of_freshR hr_b3 (hD.nw 1 _ _ rfl).1
  have hn_b4_b5 := ne_of_freshR hr_b4 (hD.nw 1 _ _ rfl).1
  replace hr_b0 := rangeAt_grown hr_b0 hD.gr
  replace hr_b2 := rangeAt_grown hr_b2 hD.gr
  replace hr_b3 := rangeAt_grown hr_b3 hD.gr
  replace hr_b4 := rangeAt_grown hr_b4 hD.gr
  replace ht_b1 := there_grown ht_b1 hD.gr
  replace ht_b2 := there_grown ht_b2 hD.gr
  replace ht_b3 := there_grown ht_b3 hD.gr
  replace ht_b4 := there_grown ht_b4 hD.gr
  obtain ⟨hf_b5, ht_b5⟩ := hD.nw 1 _ _ rfl
  have hr_b5 : w7.rangeAt (β 1) 0 (il 16 (d16 (2))) := hD.rg 2 1 1 (fun _ => il 16 (d16 (2))) rfl
  replace hf_b5 := Nat.le_trans hW.2.2 hf_b5
  replace hW := grown_trans hW hD.gr
  clear hD
  simp only [finAct, putAll, valsFrom, Plan.value, Act.put, List.setIfInBounds_toArray, List.set_cons_zero, List.set_cons_succ]
  replace hGl := hGl0.grown hW
  generalize β (0 + 1) = b5 at *
  repeat ((fail_if_success (with_reducible show Code.wp _ (Code.region _ _ _) _ _ _)); go_step)
  refine wp_plain [.val (bv (f)), .new 23 32, .put 1 1 (fun _ => bl (f))] (by kernel_rfl) (fun β => ?_) (fun β w8 hD => ?_)
  · refine Obs.cons (Ob.call 96 #[.int .u8 (251), .int .u8 (31)] rfl (fun w => by kernel_rfl) (fun w hg => ends_F hf w)) ?_
    refine Obs.cons (Ob.new _ rfl rfl zero32.1 (by simp [bl_length])) ?_
    refine Obs.cons (Ob.put 23 rfl rfl rfl (by kernel_rfl) (by kernel_rfl) (by rw [bl_length]; exact info32) (bl_one _)) ?_
    exact Obs.nil
  have hn_b0_b6 := ne_of_freshR hr_b0 (hD.nw 1 _ _ rfl).1
  have hn_b2_b6 := ne_of_fresh hr_b2 (hD.nw 1 _ _ rfl).1
  have hn_b3_b6 := ne_of_freshR hr_b3 (hD.nw 1 _ _ rfl).1
  have hn_b4_b6 := ne_of_freshR hr_b4 (hD.nw 1 _ _ rfl).1
  have hn_b5_b6 := ne_of_freshR hr_b5 (hD.nw 1 _ _ rfl).1
  replace hr_b0 := rangeAt_grown hr_b0 hD.gr
  replace hr_b2 := rangeAt_grown hr_b2 hD.gr
  replace hr_b3 := rangeAt_grown hr_b3 hD.gr
  replace hr_b4 := rangeAt_grown hr_b4 hD.gr
  replace hr_b5 := rangeAt_grown hr_b5 hD.gr
  replace ht_b1 := there_grown ht_b1 hD.gr
  replace ht_b2 := there_grown ht_b2 hD.gr
  replace ht_b3 := there_grown ht_b3 hD.gr
  replace ht_b4 := there_grown ht_b4 hD.gr
  replace ht_b5 := there_grown ht_b5 hD.gr
  obtain ⟨hf_b6, ht_b6⟩ := hD.nw 1 _ _ rfl
  have hr_b6 : w8.rangeAt (β 1) 0 (bl (f)) := hD.rg 2 1 1 (fun _ => bl (f)) rfl
  replace hf_b6 := Nat.le_trans hW.2.2 hf_b6
  replace hW := grown_trans hW hD.gr
  clear hD
  simp only [finAct, putAll, valsFrom, Plan.value, Act.put, List.setIfInBounds_toArray, List.set_cons_zero, List.set_cons_succ]
  replace hGl := hGl0.grown hW
  generalize β (0 + 1) = b6 at *
  repeat ((fail_if_success (with_reducible show Code.wp _ (Code.region _ _ _) _ _ _)); go_step)
  refine wp_plain [.val (sn (2)), .val (bv (f)), .val (sn ((2) ^ (f) % p)), .new 45 16, .put 3 3 (fun _ => il 16 (d16 ((2) ^ (f) % p)))] (by kernel_rfl) (fun β => ?_) (fun β w9 hD => ?_)
  · refine Obs.cons (Ob.load (b5) 0 (il 16 (d16 (2))) rfl rfl (by kernel_rfl) hr_b5 Tryd.underlying45 rfl (by rw [il_length]; exact infoS)) ?_
    refine Obs.cons (Ob.load (b6) 0 (bl (f)) rfl rfl (by kernel_rfl) hr_b6 Tryd.underlying23 rfl (by rw [bl_length]; exact info32)) ?_
    refine Obs.cons (Ob.call 68 #[sn (2), bv (f)] rfl (fun w => by kernel_rfl) (fun w hg => Power_r (2) (f) (by decide) (F_S hf) w (hGl.grown hg))) ?_
    refine Obs.cons (Ob.new _ rfl rfl zeroS (by simp [il_length])) ?_
    refine Obs.cons (Ob.put 45 rfl rfl rfl (by kernel_rfl) (by kernel_rfl) (by rw [il_length]; exact infoS) (il_one _ _)) ?_
    exact Obs.nil
  have hn_b0_b7 := ne_of_freshR hr_b0 (hD.nw 3 _ _ rfl).1
  have hn_b2_b7 := ne_of_fresh hr_b2 (hD.nw 3 _ _ rfl).1
  have hn_b3_b7 := ne_of_freshR hr_b3 (hD.nw 3 _ _ rfl).1
  have hn_b4_b7 := ne_of_freshR hr_b4 (hD.nw 3 _ _ rfl).1
  have hn_b5_b7 := ne_of_freshR hr_b5 (hD.nw 3 _ _ rfl).1
  have hn_b6_b7 := ne_of_fresh hr_b6 (hD.nw 3 _ _ rfl).1
  replace hr_b0 := rangeAt_grown hr_b0 hD.gr
  replace hr_b2 := rangeAt_grown hr_b2 hD.gr
  replace hr_b3 := rangeAt_grown hr_b3 hD.gr
  replace hr_b4 := rangeAt_grown hr_b4 hD.gr
  replace hr_b5 := rangeAt_grown hr_b5 hD.gr
  replace hr_b6 := rangeAt_grown hr_b6 hD.gr
  replace ht_b1 := there_grown ht_b1 hD.gr
  replace ht_b2 := there_grown ht_b2 hD.gr
  replace ht_b3 := there_grown ht_b3 hD.gr
  replace ht_b4 := there_grown ht_b4 hD.gr
  replace ht_b5 := there_grown ht_b5 hD.gr
  replace ht_b6 := there_grown ht_b6 hD.gr
  obtain ⟨hf_b7, ht_b7⟩ := hD.nw 3 _ _ rfl
  have hr_b7 : w9.rangeAt (β 3) 0 (il 16 (d16 ((2) ^ (f) % p))) := hD.rg 4 3 3 (fun _ => il 16 (d16 ((2) ^ (f) % p))) rfl
  replace hf_b7 := Nat.le_trans hW.2.2 hf_b7
  replace hW := grown_trans hW hD.gr
  clear hD
  simp only [finAct, putAll, valsFrom, Plan.value, Act.put, List.setIfInBounds_toArray, List.set_cons_zero, List.set_cons_succ]
  replace hGl := hGl0.grown hW
  generalize β (0 + 1 + 1 + 1) = b7 at *
  repeat ((fail_if_success (with_reducible show Code.wp _ (Code.region _ _ _) _ _ _)); go_step)
  refine wp_plain_fin [.val (sn ((a) ^ (e) % p)), .val (sn ((2) ^ (f) % p)), .val (sn (((a) ^ (e) % p) * ((2) ^ (f) % p) % p)), .fin] (b3) 0 (fun _ => il 16 (d16 (((a) ^ (e) % p) * ((2) ^ (f) % p) % p))) (by kernel_rfl) (fun β => ?_) (fun β w10 hD => ?_)
  · refine Obs.cons (Ob.load (b3) 0 (il 16 (d16 ((a) ^ (e) % p))) rfl rfl (by kernel_rfl) hr_b3 Tryd.underlying45 rfl (by rw [il_length]; exact infoS)) ?_
    refine Obs.cons (Ob.load (b7) 0 (il 16 (d16 ((2) ^ (f) % p))) rfl rfl (by kernel_rfl) hr_b7 Tryd.underlying45 rfl (by rw [il_length]; exact infoS)) ?_
    refine Obs.cons (Ob.call 63 #[sn ((a) ^ (e) % p), sn ((2) ^ (f) % p)] rfl (fun w => by kernel_rfl) (fun w hg => Times_r ((a) ^ (e) % p) ((2) ^ (f) % p) (mod_S _) (mod_S _) w (hGl.grown hg))) ?_
    refine Obs.cons (Ob.fin rfl (by rw [il_length]; exact ht_b3) rfl (by kernel_rfl) (by kernel_rfl) (by rw [il_length]; exact infoS) (il_one _ _)) ?_
    exact Obs.nil
  replace hr_b0 := rangeAt_grown hr_b0 hD.gr
  replace hr_b2 := rangeAt_grown hr_b2 hD.gr
  replace hr_b3 := rangeAt_grown hr_b3 hD.gr
  replace hr_b4 := rangeAt_grown hr_b4 hD.gr
  replace hr_b5 := rangeAt_grown hr_b5 hD.gr
  replace hr_b6 := rangeAt_grown hr_b6 hD.gr
  replace hr_b7 := rangeAt_grown hr_b7 hD.gr
  replace ht_b1 := there_grown ht_b1 hD.gr
  replace ht_b2 := there_grown ht_b2 hD.gr
  replace ht_b3 := there_grown ht_b3 hD.gr
  replace ht_b4 := there_grown ht_b4 hD.gr
  replace ht_b5 := there_grown ht_b5 hD.gr
  replace ht_b6 := there_grown ht_b6 hD.gr
  replace ht_b7 := there_grown ht_b7 hD.gr
  replace hW := grown_trans hW hD.gr
  clear hD
  simp only [finAct, putAll, valsFrom, Plan.value, Act.put, List.setIfInBounds_toArray, List.set_cons_zero, List.set_cons_succ]
  replace hGl := hGl0.grown hW
  have hs10 := World.rangeAt_setCells_same w10 (b3) 0 (il 16 (d16 (((a) ^ (e) % p) * ((2) ^ (f) % p) % p))) (by rw [il_length]; exact ht_b3)
  replace hW := grown_setCells hf_b3 (il 16 (d16 (((a) ^ (e) % p) * ((2) ^ (f) % p) % p))) 0 hW
  replace hr_b0 := World.rangeAt_setCells_apart hr_b0 (b3) 0 (il 16 (d16 (((a) ^ (e) % p) * ((2) ^ (f) % p) % p))) (.inl (hn_b0_b3))
  replace hr_b2 := World.rangeAt_setCells_apart hr_b2 (b3) 0 (il 16 (d16 (((a) ^ (e) % p) * ((2) ^ (f) % p) % p))) (.inl (hn_b2_b3))
  replace hr_b4 := World.rangeAt_setCells_apart hr_b4 (b3) 0 (il 16 (d16 (((a) ^ (e) % p) * ((2) ^ (f) % p) % p))) (.inl (Ne.symm hn_b3_b4))
  replace hr_b5 := World.rangeAt_setCells_apart hr_b5 (b3) 0 (il 16 (d16 (((a) ^ (e) % p) * ((2) ^ (f) % p) % p))) (.inl (Ne.symm hn_b3_b5))
  replace hr_b6 := World.rangeAt_setCells_apart hr_b6 (b3) 0 (il 16 (d16 (((a) ^ (e) % p) * ((2) ^ (f) % p) % p))) (.inl (Ne.symm hn_b3_b6))
  replace hr_b7 := World.rangeAt_setCells_apart hr_b7 (b3) 0 (il 16 (d16 (((a) ^ (e) % p) * ((2) ^ (f) % p) % p))) (.inl (Ne.symm hn_b3_b7))
  replace ht_b1 := World.there_setCells ht_b1 (b3) 0 (il 16 (d16 (((a) ^ (e) % p) * ((2) ^ (f) % p) % p)))
  replace ht_b2 := World.there_setCells ht_b2 (b3) 0 (il 16 (d16 (((a) ^ (e) % p) * ((2) ^ (f) % p) % p)))
  replace ht_b3 := World.there_setCells ht_b3 (b3) 0 (il 16 (d16 (((a) ^ (e) % p) * ((2) ^ (f) % p) % p)))
  replace ht_b4 := World.there_setCells ht_b4 (b3) 0 (il 16 (d16 (((a) ^ (e) % p) * ((2) ^ (f) % p) % p)))
  replace ht_b5 := World.there_setCells ht_b5 (b3) 0 (il 16 (d16 (((a) ^ (e) % p) * ((2) ^ (f) % p) % p)))
  replace ht_b6 := World.there_setCells ht_b6 (b3) 0 (il 16 (d16 (((a) ^ (e) % p) * ((2) ^ (f) % p) % p)))
  replace ht_b7 := World.there_setCells ht_b7 (b3) 0 (il 16 (d16 (((a) ^ (e) % p) * ((2) ^ (f) % p) % p)))
  replace hGl := hGl0.grown hW
  generalize w10.setCells (b3) 0 (il 16 (d16 (((a) ^ (e) % p) * ((2) ^ (f) % p) % p))) = w10s at *
  repeat ((fail_if_success (with_reducible show Code.wp _ (Code.region _ _ _) _ _ _)); go_step)
  refine wp_plain [.imm (.pointer (some ⟨b3, 0, none⟩)), .val (.int .i64 (d16 (((a) ^ (e) % p) * ((2) ^ (f) % p) % p) 0)), .imm (.int .i64 (d16 (((a) ^ (e) % p) * ((2) ^ (f) % p) % p) 0 % 2)), .imm (.bool false)] (by kernel_rfl) (fun β => ?_) (fun β w11 hD => ?_)
  · refine Obs.cons (Ob.imm rfl (fun w => exec_idxS 0 (by decide) rfl (by kernel_rfl) (by kernel_rfl))) ?_
    refine Obs.cons (Ob.load1 (b3) 0 rfl rfl (by kernel_rfl) (block_lt_of_cell (cell_i hs10 (j := 0) (by decide))) (cell_i hs10 (by decide)) (fun w h => run_loadI w h)) ?_
    refine Obs.cons (Ob.imm rfl (fun w => exec_remZ (d16 (((a) ^ (e) % p) * ((2) ^ (f) % p) % p) 0) 2 _ (by decide) (d16_in _ 16 0 (by decide)).1 rfl (by kernel_rfl) (by kernel_rfl) rfl)) ?_
    refine Obs.cons (Ob.imm rfl (fun w => exec_eqlI rfl (d16 (((a) ^ (e) % p) * ((2) ^ (f) % p) % p) 0 % 2) (1) (by kernel_rfl) (by kernel_rfl) false (decide_eq_false (par_not ho)))) ?_
    exact Obs.nil
  replace hr_b0 := rangeAt_grown hr_b0 hD.gr
  replace hr_b2 := rangeAt_grown hr_b2 hD.gr
  replace hr_b4 := rangeAt_grown hr_b4 hD.gr
  replace hr_b5 := rangeAt_grown hr_b5 hD.gr
  replace hr_b6 := rangeAt_grown hr_b6 hD.gr
  replace hr_b7 := rangeAt_grown hr_b7 hD.gr
  replace hs10 := rangeAt_grown hs10 hD.gr
  replace ht_b1 := there_grown ht_b1 hD.gr
  replace ht_b2 := there_grown ht_b2 hD.gr
  replace ht_b3 := there_grown ht_b3 hD.gr
  replace ht_b4 := there_grown ht_b4 hD.gr
  replace ht_b5 := there_grown ht_b5 hD.gr
  replace ht_b6 := there_grown ht_b6 hD.gr
  replace ht_b7 := there_grown ht_b7 hD.gr
  replace hW := grown_trans hW hD.gr
  clear hD
  simp only [finAct, putAll, valsFrom, Plan.value, Act.put, List.setIfInBounds_toArray, List.set_cons_zero, List.set_cons_succ]
  replace hGl := hGl0.grown hW
  repeat ((fail_if_success (with_reducible show Code.wp _ (Code.region _ _ _) _ _ _)); go_step)
  refine wp_plain_fin [.val (sn (((a) ^ (e) % p) * ((2) ^ (f) % p) % p)), .fin] (b1) 0 (fun _ => il 16 (d16 (((a) ^ (e) % p) * ((2) ^ (f) % p) % p))) (by kernel_rfl) (fun β => ?_) (fun β w12 hD => ?_)
  · refine Obs.cons (Ob.load (b3) 0 (il 16 (d16 (((a) ^ (e) % p) * ((2) ^ (f) % p) % p))) rfl rfl (by kernel_rfl) hs10 Tryd.underlying45 rfl (by rw [il_length]; exact infoS)) ?_
    refine Obs.cons (Ob.fin rfl (by rw [il_length]; exact ht_b1) rfl (by kernel_rfl) (by kernel_rfl) (by rw [il_length]; exact infoS) (il_one _ _)) ?_
    exact Obs.nil
  replace hr_b0 := rangeAt_grown hr_b0 hD.gr
  replace hr_b2 := rangeAt_grown hr_b2 hD.gr
  replace hr_b4 := rangeAt_grown hr_b4 hD.gr
  replace hr_b5 := rangeAt_grown hr_b5 hD.gr
  replace hr_b6 := rangeAt_grown hr_b6 hD.gr
  replace hr_b7 := rangeAt_grown hr_b7 hD.gr
  replace hs10 := rangeAt_grown hs10 hD.gr
  replace ht_b1 := there_grown ht_b1 hD.gr
  replace ht_b2 := there_grown ht_b2 hD.gr
  replace ht_b3 := there_grown ht_b3 hD.gr
  replace ht_b4 := there_grown ht_b4 hD.gr
  replace ht_b5 := there_grown ht_b5 hD.gr
  replace ht_b6 := there_grown ht_b6 hD.gr
  replace ht_b7 := there_grown ht_b7 hD.gr
  replace hW := grown_trans hW hD.gr
  clear hD
  simp only [finAct, putAll, valsFrom, Plan.value, Act.put, List.setIfInBounds_toArray, List.set_cons_zero, List.set_cons_succ]
  replace hGl := hGl0.grown hW
  have hs12 := World.rangeAt_setCells_same w12 (b1) 0 (il 16 (d16 (((a) ^ (e) % p) * ((2) ^ (f) % p) % p))) (by rw [il_length]; exact ht_b1)
  replace hW := grown_setCells hf_b1 (il 16 (d16 (((a) ^ (e) % p) * ((2) ^ (f) % p) % p))) 0 hW
  generalize w12.setCells (b1) 0 (il 16 (d16 (((a) ^ (e) % p) * ((2) ^ (f) % p) % p))) = w12s at *
  repeat go_step
  refine bodyPost_ret (v := sn (((a) ^ (e) % p) * ((2) ^ (f) % p) % p)) (result_cells Tryd.results72 _ _ (b1) _ ?hp hs12 Tryd.underlying45 rfl (by rw [il_length]; exact infoS)) ?hd ?_
  case hp => rfl
  case hd => rfl
  exact ⟨rfl, hW⟩

set_option maxRecDepth 100000 in
set_option maxHeartbeats 4000000 in
theorem Root_11 (a e f : Nat) (ha : a < S256) (he : Hid (e = Er)) (hf : Hid (f = Fr2)) (hs : ¬ ((a) ^ (e) % p) * ((a) ^ (e) % p) % p = a) (ho : (((a) ^ (e) % p) * ((2) ^ (f) % p) % p) % 2 = 1) (w : World) (hGl0 : Gp w) : Calls Tryd.prog 72 #[sn a] w fun ex w' => ex = .returned (sn (sb ((0) % p) (((a) ^ (e) % p) * ((2) ^ (f) % p) % p))) ∧ Grown w w' := by
  have hW := Grown.refl w
  have hGl := hGl0
  go_enter Tryd.func72, Tryd.ntmps72
  repeat ((fail_if_success (with_reducible show Code.wp _ (Code.region _ _ _) _ _ _)); go_step)
  refine wp_plain [.box 45 (il 16 (d16 (a))), .new 45 16] (by kernel_rfl) (fun β => ?_) (fun β w1 hD => ?_)
  · refine Obs.cons (Ob.box rfl rfl (by kernel_rfl)) ?_
    refine Obs.cons (Ob.new _ rfl rfl zeroS (by simp [il_length])) ?_
    exact Obs.nil
  obtain ⟨hf_b0, hr_b0⟩ := hD.bx 0 _ _ rfl
  replace hf_b0 := Nat.le_trans hW.2.2 hf_b0
  obtain ⟨hf_b1, ht_b1⟩ := hD.nw 1 _ _ rfl
  replace hf_b1 := Nat.le_trans hW.2.2 hf_b1
  have hn_b0_b1 := hD.ap 0 1 _ _ rfl rfl rfl rfl (by decide)
  replace hW := grown_trans hW hD.gr
  clear hD
  simp only [finAct, putAll, valsFrom, Plan.value, Act.put, List.setIfInBounds_toArray, List.set_cons_zero, List.set_cons_succ]
  replace hGl := hGl0.grown hW
  generalize β 0 = b0 at *
  generalize β (0 + 1) = b1 at *
  repeat ((fail_if_success (with_reducible show Code.wp _ (Code.region _ _ _) _ _ _)); go_step)
  refine wp_plain [.val (bv (e)), .new 23 32, .put 1 1 (fun _ => bl (e))] (by kernel_rfl) (fun β => ?_) (fun β w2 hD => ?_)
  · refine Obs.cons (Ob.call 96 #[.int .u8 (254), .int .u8 (15)] rfl (fun w => by kernel_rfl) (fun w hg => ends_E he w)) ?_
    refine Obs.cons (Ob.new _ rfl rfl zero32.1 (by simp [bl_length])) ?_
    refine Obs.cons (Ob.put 23 rfl rfl rfl (by kernel_rfl) (by kernel_rfl) (by rw [bl_length]; exact info32) (bl_one _)) ?_
    exact Obs.nil
  have hn_b0_b2 := ne_of_freshR hr_b0 (hD.nw 1 _ _ rfl).1
  replace hr_b0 := rangeAt_grown hr_b0 hD.gr
  replace ht_b1 := there_grown ht_b1 hD.gr
  obtain ⟨hf_b2, ht_b2⟩ := hD.nw 1 _ _ rfl
  have hr_b2 : w2.rangeAt (β 1) 0 (bl (e)) := hD.rg 2 1 1 (fun _ => bl (e)) rfl
  replace hf_b2 := Nat.le_trans hW.2.2 hf_b2
  replace hW := grown_trans hW hD.gr
  clear hD
  simp only [finAct, putAll, valsFrom, Plan.value, Act.put, List.setIfInBounds_toArray, List.set_cons_zero, List.set_cons_succ]
  replace hGl := hGl0.grown hW
  generalize β (0 + 1) = b2 at *
  repeat ((fail_if_success (with_reducible show Code.wp _ (Code.region _ _ _) _ _ _)); go_step)
  refine wp_plain [.val (sn (a)), .val (bv (e)), .val (sn ((a) ^ (e) % p)), .new 45 16, .put 3 3 (fun _ => il 16 (d16 ((a) ^ (e) % p)))] (by kernel_rfl) (fun β => ?_) (fun β w3 hD => ?_)
  · refine Obs.cons (Ob.load (b0) 0 (il 16 (d16 (a))) rfl rfl (by kernel_rfl) hr_b0 Tryd.underlying45 rfl (by rw [il_length]; exact infoS)) ?_
    refine Obs.cons (Ob.load (b2) 0 (bl (e)) rfl rfl (by kernel_rfl) hr_b2 Tryd.underlying23 rfl (by rw [bl_length]; exact info32)) ?_
    refine Obs.cons (Ob.call 68 #[sn (a), bv (e)] rfl (fun w => by kernel_rfl) (fun w hg => Power_r (a) (e) ha (E_S he) w (hGl.grown hg))) ?_
    refine Obs.cons (Ob.new _ rfl rfl zeroS (by simp [il_length])) ?_
    refine Obs.cons (Ob.put 45 rfl rfl rfl (by kernel_rfl) (by kernel_rfl) (by rw [il_length]; exact infoS) (il_one _ _)) ?_
    exact Obs.nil
  have hn_b0_b3 := ne_of_freshR hr_b0 (hD.nw 3 _ _ rfl).1
  have hn_b2_b3 := ne_of_fresh hr_b2 (hD.nw 3 _ _ rfl).1
  replace hr_b0 := rangeAt_grown hr_b0 hD.gr
  replace hr_b2 := rangeAt_grown hr_b2 hD.gr
  replace ht_b1 := there_grown ht_b1 hD.gr
  replace ht_b2 := there_grown ht_b2 hD.gr
  obtain ⟨hf_b3, ht_b3⟩ := hD.nw 3 _ _ rfl
  have hr_b3 : w3.rangeAt (β 3) 0 (il 16 (d16 ((a) ^ (e) % p))) := hD.rg 4 3 3 (fun _ => il 16 (d16 ((a) ^ (e) % p))) rfl
  replace hf_b3 := Nat.le_trans hW.2.2 hf_b3
  replace hW := grown_trans hW hD.gr
  clear hD
  simp only [finAct, putAll, valsFrom, Plan.value, Act.put, List.setIfInBounds_toArray, List.set_cons_zero, List.set_cons_succ]
  replace hGl := hGl0.grown hW
  generalize β (0 + 1 + 1 + 1) = b3 at *
  repeat ((fail_if_success (with_reducible show Code.wp _ (Code.region _ _ _) _ _ _)); go_step)
  refine wp_plain [.val (sn ((a) ^ (e) % p)), .val (sn ((a) ^ (e) % p)), .val (sn (((a) ^ (e) % p) * ((a) ^ (e) % p) % p)), .new 45 16, .put 3 3 (fun _ => il 16 (d16 (((a) ^ (e) % p) * ((a) ^ (e) % p) % p)))] (by kernel_rfl) (fun β => ?_) (fun β w4 hD => ?_)
  · refine Obs.cons (Ob.load (b3) 0 (il 16 (d16 ((a) ^ (e) % p))) rfl rfl (by kernel_rfl) hr_b3 Tryd.underlying45 rfl (by rw [il_length]; exact infoS)) ?_
    refine Obs.cons (Ob.load (b3) 0 (il 16 (d16 ((a) ^ (e) % p))) rfl rfl (by kernel_rfl) hr_b3 Tryd.underlying45 rfl (by rw [il_length]; exact infoS)) ?_
    refine Obs.cons (Ob.call 63 #[sn ((a) ^ (e) % p), sn ((a) ^ (e) % p)] rfl (fun w => by kernel_rfl) (fun w hg => Times_r ((a) ^ (e) % p) ((a) ^ (e) % p) (mod_S _) (mod_S _) w (hGl.grown hg))) ?_
    refine Obs.cons (Ob.new _ rfl rfl zeroS (by simp [il_length])) ?_
    refine Obs.cons (Ob.put 45 rfl rfl rfl (by kernel_rfl) (by kernel_rfl) (by rw [il_length]; exact infoS) (il_one _ _)) ?_
    exact Obs.nil
  have hn_b0_b4 := ne_of_freshR hr_b0 (hD.nw 3 _ _ rfl).1
  have hn_b2_b4 := ne_of_fresh hr_b2 (hD.nw 3 _ _ rfl).1
  have hn_b3_b4 := ne_of_freshR hr_b3 (hD.nw 3 _ _ rfl).1
  replace hr_b0 := rangeAt_grown hr_b0 hD.gr
  replace hr_b2 := rangeAt_grown hr_b2 hD.gr
  replace hr_b3 := rangeAt_grown hr_b3 hD.gr
  replace ht_b1 := there_grown ht_b1 hD.gr
  replace ht_b2 := there_grown ht_b2 hD.gr
  replace ht_b3 := there_grown ht_b3 hD.gr
  obtain ⟨hf_b4, ht_b4⟩ := hD.nw 3 _ _ rfl
  have hr_b4 : w4.rangeAt (β 3) 0 (il 16 (d16 (((a) ^ (e) % p) * ((a) ^ (e) % p) % p))) := hD.rg 4 3 3 (fun _ => il 16 (d16 (((a) ^ (e) % p) * ((a) ^ (e) % p) % p))) rfl
  replace hf_b4 := Nat.le_trans hW.2.2 hf_b4
  replace hW := grown_trans hW hD.gr
  clear hD
  simp only [finAct, putAll, valsFrom, Plan.value, Act.put, List.setIfInBounds_toArray, List.set_cons_zero, List.set_cons_succ]
  replace hGl := hGl0.grown hW
  generalize β (0 + 1 + 1 + 1) = b4 at *
  repeat ((fail_if_success (with_reducible show Code.wp _ (Code.region _ _ _) _ _ _)); go_step)
  refine wp_plain [.val (sn (((a) ^ (e) % p) * ((a) ^ (e) % p) % p)), .val (sn (a)), .val (.bool false), .imm (.bool false)] (by kernel_rfl) (fun β => ?_) (fun β w5 hD => ?_)
  · refine Obs.cons (Ob.load (b4) 0 (il 16 (d16 (((a) ^ (e) % p) * ((a) ^ (e) % p) % p))) rfl rfl (by kernel_rfl) hr_b4 Tryd.underlying45 rfl (by rw [il_length]; exact infoS)) ?_
    refine Obs.cons (Ob.load (b0) 0 (il 16 (d16 (a))) rfl rfl (by kernel_rfl) hr_b0 Tryd.underlying45 rfl (by rw [il_length]; exact infoS)) ?_
    refine Obs.cons (Ob.call 92 #[sn (((a) ^ (e) % p) * ((a) ^ (e) % p) % p), sn (a)] rfl (fun w => by kernel_rfl) (fun w hg => Same_b (((a) ^ (e) % p) * ((a) ^ (e) % p) % p) (a) (mod_S _) ha false (decide_eq_false hs) w)) ?_
    refine Obs.cons (Ob.imm rfl (fun w => by kernel_rfl)) ?_
    exact Obs.nil
  replace hr_b0 := rangeAt_grown hr_b0 hD.gr
  replace hr_b2 := rangeAt_grown hr_b2 hD.gr
  replace hr_b3 := rangeAt_grown hr_b3 hD.gr
  replace hr_b4 := rangeAt_grown hr_b4 hD.gr
  replace ht_b1 := there_grown ht_b1 hD.gr
  replace ht_b2 := there_grown ht_b2 hD.gr
  replace ht_b3 := there_grown ht_b3 hD.gr
  replace ht_b4 := there_grown ht_b4 hD.gr
  replace hW := grown_trans hW hD.gr
  clear hD
  simp only [finAct, putAll, valsFrom, Plan.value, Act.put, List.setIfInBounds_toArray, List.set_cons_zero, List.set_cons_succ]
  replace hGl := hGl0.grown hW
  repeat ((fail_if_success (with_reducible show Code.wp _ (Code.region _ _ _) _ _ _)); go_step)
  refine wp_plain [.imm (.bool false), .imm (.bool true)] (by kernel_rfl) (fun β => ?_) (fun β w6 hD => ?_)
  · refine Obs.cons (Ob.imm rfl (fun w => by kernel_rfl)) ?_
    refine Obs.cons (Ob.imm rfl (fun w => by kernel_rfl)) ?_
    exact Obs.nil
  replace hr_b0 := rangeAt_grown hr_b0 hD.gr
  replace hr_b2 := rangeAt_grown hr_b2 hD.gr
  replace hr_b3 := rangeAt_grown hr_b3 hD.gr
  replace hr_b4 := rangeAt_grown hr_b4 hD.gr
  replace ht_b1 := there_grown ht_b1 hD.gr
  replace ht_b2 := there_grown ht_b2 hD.gr
  replace ht_b3 := there_grown ht_b3 hD.gr
  replace ht_b4 := there_grown ht_b4 hD.gr
  replace hW := grown_trans hW hD.gr
  clear hD
  simp only [finAct, putAll, valsFrom, Plan.value, Act.put, List.setIfInBounds_toArray, List.set_cons_zero, List.set_cons_succ]
  replace hGl := hGl0.grown hW
  repeat ((fail_if_success (with_reducible show Code.wp _ (Code.region _ _ _) _ _ _)); go_step)
  refine wp_plain [.val (sn (2)), .new 45 16, .put 1 1 (fun _ => il 16 (d16 (2)))] (by kernel_rfl) (fun β => ?_) (fun β w7 hD => ?_)
  · refine Obs.cons (Ob.call 39 #[.int .i64 (2)] rfl (fun w => by kernel_rfl) (fun w hg => Small_r 2 (by decide) 2 rfl w)) ?_
    refine Obs.cons (Ob.new _ rfl rfl zeroS (by simp [il_length])) ?_
    refine Obs.cons (Ob.put 45 rfl rfl rfl (by kernel_rfl) (by kernel_rfl) (by rw [il_length]; exact infoS) (il_one _ _)) ?_
    exact Obs.nil
  have hn_b0_b5 := ne_of_freshR hr_b0 (hD.nw 1 _ _ rfl).1
  have hn_b2_b5 := ne_of_fresh hr_b2 (hD.nw 1 _ _ rfl).1
  have hn_b3_b5 := ne_of_freshR hr_b3 (hD.nw 1 _ _ rfl).1
  have hn_b4_b5 := ne_of_freshR hr_b4 (hD.nw 1 _ _ rfl).1
  replace hr_b0 := rangeAt_grown hr_b0 hD.gr
  replace hr_b2 := rangeAt_grown hr_b2 hD.gr
  replace hr_b3 := rangeAt_grown hr_b3 hD.gr
  replace hr_b4 := rangeAt_grown hr_b4 hD.gr
  replace ht_b1 := there_grown ht_b1 hD.gr
  replace ht_b2 := there_grown ht_b2 hD.gr
  replace ht_b3 := there_grown ht_b3 hD.gr
  replace ht_b4 := there_grown ht_b4 hD.gr
  obtain ⟨hf_b5, ht_b5⟩ := hD.nw 1 _ _ rfl
  have hr_b5 : w7.rangeAt (β 1) 0 (il 16 (d16 (2))) := hD.rg 2 1 1 (fun _ => il 16 (d16 (2))) rfl
  replace hf_b5 := Nat.le_trans hW.2.2 hf_b5
  replace hW := grown_trans hW hD.gr
  clear hD
  simp only [finAct, putAll, valsFrom, Plan.value, Act.put, List.setIfInBounds_toArray, List.set_cons_zero, List.set_cons_succ]
  replace hGl := hGl0.grown hW
  generalize β (0 + 1) = b5 at *
  repeat ((fail_if_success (with_reducible show Code.wp _ (Code.region _ _ _) _ _ _)); go_step)
  refine wp_plain [.val (bv (f)), .new 23 32, .put 1 1 (fun _ => bl (f))] (by kernel_rfl) (fun β => ?_) (fun β w8 hD => ?_)
  · refine Obs.cons (Ob.call 96 #[.int .u8 (251), .int .u8 (31)] rfl (fun w => by kernel_rfl) (fun w hg => ends_F hf w)) ?_
    refine Obs.cons (Ob.new _ rfl rfl zero32.1 (by simp [bl_length])) ?_
    refine Obs.cons (Ob.put 23 rfl rfl rfl (by kernel_rfl) (by kernel_rfl) (by rw [bl_length]; exact info32) (bl_one _)) ?_
    exact Obs.nil
  have hn_b0_b6 := ne_of_freshR hr_b0 (hD.nw 1 _ _ rfl).1
  have hn_b2_b6 := ne_of_fresh hr_b2 (hD.nw 1 _ _ rfl).1
  have hn_b3_b6 := ne_of_freshR hr_b3 (hD.nw 1 _ _ rfl).1
  have hn_b4_b6 := ne_of_freshR hr_b4 (hD.nw 1 _ _ rfl).1
  have hn_b5_b6 := ne_of_freshR hr_b5 (hD.nw 1 _ _ rfl).1
  replace hr_b0 := rangeAt_grown hr_b0 hD.gr
  replace hr_b2 := rangeAt_grown hr_b2 hD.gr
  replace hr_b3 := rangeAt_grown hr_b3 hD.gr
  replace hr_b4 := rangeAt_grown hr_b4 hD.gr
  replace hr_b5 := rangeAt_grown hr_b5 hD.gr
  replace ht_b1 := there_grown ht_b1 hD.gr
  replace ht_b2 := there_grown ht_b2 hD.gr
  replace ht_b3 := there_grown ht_b3 hD.gr
  replace ht_b4 := there_grown ht_b4 hD.gr
  replace ht_b5 := there_grown ht_b5 hD.gr
  obtain ⟨hf_b6, ht_b6⟩ := hD.nw 1 _ _ rfl
  have hr_b6 : w8.rangeAt (β 1) 0 (bl (f)) := hD.rg 2 1 1 (fun _ => bl (f)) rfl
  replace hf_b6 := Nat.le_trans hW.2.2 hf_b6
  replace hW := grown_trans hW hD.gr
  clear hD
  simp only [finAct, putAll, valsFrom, Plan.value, Act.put, List.setIfInBounds_toArray, List.set_cons_zero, List.set_cons_succ]
  replace hGl := hGl0.grown hW
  generalize β (0 + 1) = b6 at *
  repeat ((fail_if_success (with_reducible show Code.wp _ (Code.region _ _ _) _ _ _)); go_step)
  refine wp_plain [.val (sn (2)), .val (bv (f)), .val (sn ((2) ^ (f) % p)), .new 45 16, .put 3 3 (fun _ => il 16 (d16 ((2) ^ (f) % p)))] (by kernel_rfl) (fun β => ?_) (fun β w9 hD => ?_)
  · refine Obs.cons (Ob.load (b5) 0 (il 16 (d16 (2))) rfl rfl (by kernel_rfl) hr_b5 Tryd.underlying45 rfl (by rw [il_length]; exact infoS)) ?_
    refine Obs.cons (Ob.load (b6) 0 (bl (f)) rfl rfl (by kernel_rfl) hr_b6 Tryd.underlying23 rfl (by rw [bl_length]; exact info32)) ?_
    refine Obs.cons (Ob.call 68 #[sn (2), bv (f)] rfl (fun w => by kernel_rfl) (fun w hg => Power_r (2) (f) (by decide) (F_S hf) w (hGl.grown hg))) ?_
    refine Obs.cons (Ob.new _ rfl rfl zeroS (by simp [il_length])) ?_
    refine Obs.cons (Ob.put 45 rfl rfl rfl (by kernel_rfl) (by kernel_rfl) (by rw [il_length]; exact infoS) (il_one _ _)) ?_
    exact Obs.nil
  have hn_b0_b7 := ne_of_freshR hr_b0 (hD.nw 3 _ _ rfl).1
  have hn_b2_b7 := ne_of_fresh hr_b2 (hD.nw 3 _ _ rfl).1
  have hn_b3_b7 := ne_of_freshR hr_b3 (hD.nw 3 _ _ rfl).1
  have hn_b4_b7 := ne_of_freshR hr_b4 (hD.nw 3 _ _ rfl).1
  have hn_b5_b7 := ne_of_freshR hr_b5 (hD.nw 3 _ _ rfl).1
  have hn_b6_b7 := ne_of_fresh hr_b6 (hD.nw 3 _ _ rfl).1
  replace hr_b0 := rangeAt_grown hr_b0 hD.gr
  replace hr_b2 := rangeAt_grown hr_b2 hD.gr
  replace hr_b3 := rangeAt_grown hr_b3 hD.gr
  replace hr_b4 := rangeAt_grown hr_b4 hD.gr
  replace hr_b5 := rangeAt_grown hr_b5 hD.gr
  replace hr_b6 := rangeAt_grown hr_b6 hD.gr
  replace ht_b1 := there_grown ht_b1 hD.gr
  replace ht_b2 := there_grown ht_b2 hD.gr
  replace ht_b3 := there_grown ht_b3 hD.gr
  replace ht_b4 := there_grown ht_b4 hD.gr
  replace ht_b5 := there_grown ht_b5 hD.gr
  replace ht_b6 := there_grown ht_b6 hD.gr
  obtain ⟨hf_b7, ht_b7⟩ := hD.nw 3 _ _ rfl
  have hr_b7 : w9.rangeAt (β 3) 0 (il 16 (d16 ((2) ^ (f) % p))) := hD.rg 4 3 3 (fun _ => il 16 (d16 ((2) ^ (f) % p))) rfl
  replace hf_b7 := Nat.le_trans hW.2.2 hf_b7
  replace hW := grown_trans hW hD.gr
  clear hD
  simp only [finAct, putAll, valsFrom, Plan.value, Act.put, List.setIfInBounds_toArray, List.set_cons_zero, List.set_cons_succ]
  replace hGl := hGl0.grown hW
  generalize β (0 + 1 + 1 + 1) = b7 at *
  repeat ((fail_if_success (with_reducible show Code.wp _ (Code.region _ _ _) _ _ _)); go_step)
  refine wp_plain_fin [.val (sn ((a) ^ (e) % p)), .val (sn ((2) ^ (f) % p)), .val (sn (((a) ^ (e) % p) * ((2) ^ (f) % p) % p)), .fin] (b3) 0 (fun _ => il 16 (d16 (((a) ^ (e) % p) * ((2) ^ (f) % p) % p))) (by kernel_rfl) (fun β => ?_) (fun β w10 hD => ?_)
  · refine Obs.cons (Ob.load (b3) 0 (il 16 (d16 ((a) ^ (e) % p))) rfl rfl (by kernel_rfl) hr_b3 Tryd.underlying45 rfl (by rw [il_length]; exact infoS)) ?_
    refine Obs.cons (Ob.load (b7) 0 (il 16 (d16 ((2) ^ (f) % p))) rfl rfl (by kernel_rfl) hr_b7 Tryd.underlying45 rfl (by rw [il_length]; exact infoS)) ?_
    refine Obs.cons (Ob.call 63 #[sn ((a) ^ (e) % p), sn ((2) ^ (f) % p)] rfl (fun w => by kernel_rfl) (fun w hg => Times_r ((a) ^ (e) % p) ((2) ^ (f) % p) (mod_S _) (mod_S _) w (hGl.grown hg))) ?_
    refine Obs.cons (Ob.fin rfl (by rw [il_length]; exact ht_b3) rfl (by kernel_rfl) (by kernel_rfl) (by rw [il_length]; exact infoS) (il_one _ _)) ?_
    exact Obs.nil
  replace hr_b0 := rangeAt_grown hr_b0 hD.gr
  replace hr_b2 := rangeAt_grown hr_b2 hD.gr
  replace hr_b3 := rangeAt_grown hr_b3 hD.gr
  replace hr_b4 := rangeAt_grown hr_b4 hD.gr
  replace hr_b5 := rangeAt_grown hr_b5 hD.gr
  replace hr_b6 := rangeAt_grown hr_b6 hD.gr
  replace hr_b7 := rangeAt_grown hr_b7 hD.gr
  replace ht_b1 := there_grown ht_b1 hD.gr
  replace ht_b2 := there_grown ht_b2 hD.gr
  replace ht_b3 := there_grown ht_b3 hD.gr
  replace ht_b4 := there_grown ht_b4 hD.gr
  replace ht_b5 := there_grown ht_b5 hD.gr
  replace ht_b6 := there_grown ht_b6 hD.gr
  replace ht_b7 := there_grown ht_b7 hD.gr
  replace hW := grown_trans hW hD.gr
  clear hD
  simp only [finAct, putAll, valsFrom, Plan.value, Act.put, List.setIfInBounds_toArray, List.set_cons_zero, List.set_cons_succ]
  replace hGl := hGl0.grown hW
  have hs10 := World.rangeAt_setCells_same w10 (b3) 0 (il 16 (d16 (((a) ^ (e) % p) * ((2) ^ (f) % p) % p))) (by rw [il_length]; exact ht_b3)
  replace hW := grown_setCells hf_b3 (il 16 (d16 (((a) ^ (e) % p) * ((2) ^ (f) % p) % p))) 0 hW
  replace hr_b0 := World.rangeAt_setCells_apart hr_b0 (b3) 0 (il 16 (d16 (((a) ^ (e) % p) * ((2) ^ (f) % p) % p))) (.inl (hn_b0_b3))
  replace hr_b2 := World.rangeAt_setCells_apart hr_b2 (b3) 0 (il 16 (d16 (((a) ^ (e) % p) * ((2) ^ (f) % p) % p))) (.inl (hn_b2_b3))
  replace hr_b4 := World.rangeAt_setCells_apart hr_b4 (b3) 0 (il 16 (d16 (((a) ^ (e) % p) * ((2) ^ (f) % p) % p))) (.inl (Ne.symm hn_b3_b4))
  replace hr_b5 := World.rangeAt_setCells_apart hr_b5 (b3) 0 (il 16 (d16 (((a) ^ (e) % p) * ((2) ^ (f) % p) % p))) (.inl (Ne.symm hn_b3_b5))
  replace hr_b6 := World.rangeAt_setCells_apart hr_b6 (b3) 0 (il 16 (d16 (((a) ^ (e) % p) * ((2) ^ (f) % p) % p))) (.inl (Ne.symm hn_b3_b6))
  replace hr_b7 := World.rangeAt_setCells_apart hr_b7 (b3) 0 (il 16 (d16 (((a) ^ (e) % p) * ((2) ^ (f) % p) % p))) (.inl (Ne.symm hn_b3_b7))
  replace ht_b1 := World.there_setCells ht_b1 (b3) 0 (il 16 (d16 (((a) ^ (e) % p) * ((2) ^ (f) % p) % p)))
  replace ht_b2 := World.there_setCells ht_b2 (b3) 0 (il 16 (d16 (((a) ^ (e) % p) * ((2) ^ (f) % p) % p)))
  replace ht_b3 := World.there_setCells ht_b3 (b3) 0 (il 16 (d16 (((a) ^ (e) % p) * ((2) ^ (f) % p) % p)))
  replace ht_b4 := World.there_setCells ht_b4 (b3) 0 (il 16 (d16 (((a) ^ (e) % p) * ((2) ^ (f) % p) % p)))
  replace ht_b5 := World.there_setCells ht_b5 (b3) 0 (il 16 (d16 (((a) ^ (e) % p) * ((2) ^ (f) % p) % p)))
  replace ht_b6 := World.there_setCells ht_b6 (b3) 0 (il 16 (d16 (((a) ^ (e) % p) * ((2) ^ (f) % p) % p)))
  replace ht_b7 := World.there_setCells ht_b7 (b3) 0 (il 16 (d16 (((a) ^ (e) % p) * ((2) ^ (f) % p) % p)))
  replace hGl := hGl0.grown hW
  generalize w10.setCells (b3) 0 (il 16 (d16 (((a) ^ (e) % p) * ((2) ^ (f) % p) % p))) = w10s at *
  repeat ((fail_if_success (with_reducible show Code.wp _ (Code.region _ _ _) _ _ _)); go_step)
  refine wp_plain [.imm (.pointer (some ⟨b3, 0, none⟩)), .val (.int .i64 (d16 (((a) ^ (e) % p) * ((2) ^ (f) % p) % p) 0)), .imm (.int .i64 (d16 (((a) ^ (e) % p) * ((2) ^ (f) % p) % p) 0 % 2)), .imm (.bool true)] (by kernel_rfl) (fun β => ?_) (fun β w11 hD => ?_)
  · refine Obs.cons (Ob.imm rfl (fun w => exec_idxS 0 (by decide) rfl (by kernel_rfl) (by kernel_rfl))) ?_
    refine Obs.cons (Ob.load1 (b3) 0 rfl rfl (by kernel_rfl) (block_lt_of_cell (cell_i hs10 (j := 0) (by decide))) (cell_i hs10 (by decide)) (fun w h => run_loadI w h)) ?_
    refine Obs.cons (Ob.imm rfl (fun w => exec_remZ (d16 (((a) ^ (e) % p) * ((2) ^ (f) % p) % p) 0) 2 _ (by decide) (d16_in _ 16 0 (by decide)).1 rfl (by kernel_rfl) (by kernel_rfl) rfl)) ?_
    refine Obs.cons (Ob.imm rfl (fun w => exec_eqlI rfl (d16 (((a) ^ (e) % p) * ((2) ^ (f) % p) % p) 0 % 2) (1) (by kernel_rfl) (by kernel_rfl) true (decide_eq_true (par_one ho)))) ?_
    exact Obs.nil
  replace hr_b0 := rangeAt_grown hr_b0 hD.gr
  replace hr_b2 := rangeAt_grown hr_b2 hD.gr
  replace hr_b4 := rangeAt_grown hr_b4 hD.gr
  replace hr_b5 := rangeAt_grown hr_b5 hD.gr
  replace hr_b6 := rangeAt_grown hr_b6 hD.gr
  replace hr_b7 := rangeAt_grown hr_b7 hD.gr
  replace hs10 := rangeAt_grown hs10 hD.gr
  replace ht_b1 := there_grown ht_b1 hD.gr
  replace ht_b2 := there_grown ht_b2 hD.gr
  replace ht_b3 := there_grown ht_b3 hD.gr
  replace ht_b4 := there_grown ht_b4 hD.gr
  replace ht_b5 := there_grown ht_b5 hD.gr
  replace ht_b6 := there_grown ht_b6 hD.gr
  replace ht_b7 := there_grown ht_b7 hD.gr
  replace hW := grown_trans hW hD.gr
  clear hD
  simp only [finAct, putAll, valsFrom, Plan.value, Act.put, List.setIfInBounds_toArray, List.set_cons_zero, List.set_cons_succ]
  replace hGl := hGl0.grown hW
  repeat ((fail_if_success (with_reducible show Code.wp _ (Code.region _ _ _) _ _ _)); go_step)
  refine wp_plain [.val (sn (0)), .new 45 16, .put 1 1 (fun _ => il 16 (d16 (0)))] (by kernel_rfl) (fun β => ?_) (fun β w12 hD => ?_)
  · refine Obs.cons (Ob.call 39 #[.int .i64 (0)] rfl (fun w => by kernel_rfl) (fun w hg => Small_r 0 (by decide) 0 rfl w)) ?_
    refine Obs.cons (Ob.new _ rfl rfl zeroS (by simp [il_length])) ?_
    refine Obs.cons (Ob.put 45 rfl rfl rfl (by kernel_rfl) (by kernel_rfl) (by rw [il_length]; exact infoS) (il_one _ _)) ?_
    exact Obs.nil
  have hn_b0_b8 := ne_of_freshR hr_b0 (hD.nw 1 _ _ rfl).1
  have hn_b2_b8 := ne_of_fresh hr_b2 (hD.nw 1 _ _ rfl).1
  have hn_b4_b8 := ne_of_freshR hr_b4 (hD.nw 1 _ _ rfl).1
  have hn_b5_b8 := ne_of_freshR hr_b5 (hD.nw 1 _ _ rfl).1
  have hn_b6_b8 := ne_of_fresh hr_b6 (hD.nw 1 _ _ rfl).1
  have hn_b7_b8 := ne_of_freshR hr_b7 (hD.nw 1 _ _ rfl).1
  have hn_b3_b8 := ne_of_freshR hs10 (hD.nw 1 _ _ rfl).1
  replace hr_b0 := rangeAt_grown hr_b0 hD.gr
  replace hr_b2 := rangeAt_grown hr_b2 hD.gr
  replace hr_b4 := rangeAt_grown hr_b4 hD.gr
  replace hr_b5 := rangeAt_grown hr_b5 hD.gr
  replace hr_b6 := rangeAt_grown hr_b6 hD.gr
  replace hr_b7 := rangeAt_grown hr_b7 hD.gr
  replace hs10 := rangeAt_grown hs10 hD.gr
  replace ht_b1 := there_grown ht_b1 hD.gr
  replace ht_b2 := there_grown ht_b2 hD.gr
  replace ht_b3 := there_grown ht_b3 hD.gr
  replace ht_b4 := there_grown ht_b4 hD.gr
  replace ht_b5 := there_grown ht_b5 hD.gr
  replace ht_b6 := there_grown ht_b6 hD.gr
  replace ht_b7 := there_grown ht_b7 hD.gr
  obtain ⟨hf_b8, ht_b8⟩ := hD.nw 1 _ _ rfl
  have hr_b8 : w12.rangeAt (β 1) 0 (il 16 (d16 (0))) := hD.rg 2 1 1 (fun _ => il 16 (d16 (0))) rfl
  replace hf_b8 := Nat.le_trans hW.2.2 hf_b8
  replace hW := grown_trans hW hD.gr
  clear hD
  simp only [finAct, putAll, valsFrom, Plan.value, Act.put, List.setIfInBounds_toArray, List.set_cons_zero, List.set_cons_succ]
  replace hGl := hGl0.grown hW
  generalize β (0 + 1) = b8 at *
  repeat ((fail_if_success (with_reducible show Code.wp _ (Code.region _ _ _) _ _ _)); go_step)
  refine wp_plain_fin [.val (sn (0)), .val (sn (((a) ^ (e) % p) * ((2) ^ (f) % p) % p)), .val (sn (sb ((0) % p) (((a) ^ (e) % p) * ((2) ^ (f) % p) % p))), .fin] (b3) 0 (fun _ => il 16 (d16 (sb ((0) % p) (((a) ^ (e) % p) * ((2) ^ (f) % p) % p)))) (by kernel_rfl) (fun β => ?_) (fun β w13 hD => ?_)
  · refine Obs.cons (Ob.load (b8) 0 (il 16 (d16 (0))) rfl rfl (by kernel_rfl) hr_b8 Tryd.underlying45 rfl (by rw [il_length]; exact infoS)) ?_
    refine Obs.cons (Ob.load (b3) 0 (il 16 (d16 (((a) ^ (e) % p) * ((2) ^ (f) % p) % p))) rfl rfl (by kernel_rfl) hs10 Tryd.underlying45 rfl (by rw [il_length]; exact infoS)) ?_
    refine Obs.cons (Ob.call 66 #[sn (0), sn (((a) ^ (e) % p) * ((2) ^ (f) % p) % p)] rfl (fun w => by kernel_rfl) (fun w hg => Minus_r (0) (((a) ^ (e) % p) * ((2) ^ (f) % p) % p) (by decide) (mod_S _) w (hGl.grown hg))) ?_
    refine Obs.cons (Ob.fin rfl (by rw [il_length]; exact ht_b3) rfl (by kernel_rfl) (by kernel_rfl) (by rw [il_length]; exact infoS) (il_one _ _)) ?_
    exact Obs.nil
  replace hr_b0 := rangeAt_grown hr_b0 hD.gr
  replace hr_b2 := rangeAt_grown hr_b2 hD.gr
  replace hr_b4 := rangeAt_grown hr_b4 hD.gr
  replace hr_b5 := rangeAt_grown hr_b5 hD.gr
  replace hr_b6 := rangeAt_grown hr_b6 hD.gr
  replace hr_b7 := rangeAt_grown hr_b7 hD.gr
  replace hs10 := rangeAt_grown hs10 hD.gr
  replace hr_b8 := rangeAt_grown hr_b8 hD.gr
  replace ht_b1 := there_grown ht_b1 hD.gr
  replace ht_b2 := there_grown ht_b2 hD.gr
  replace ht_b3 := there_grown ht_b3 hD.gr
  replace ht_b4 := there_grown ht_b4 hD.gr
  replace ht_b5 := there_grown ht_b5 hD.gr
  replace ht_b6 := there_grown ht_b6 hD.gr
  replace ht_b7 := there_grown ht_b7 hD.gr
  replace ht_b8 := there_grown ht_b8 hD.gr
  replace hW := grown_trans hW hD.gr
  clear hD
  simp only [finAct, putAll, valsFrom, Plan.value, Act.put, List.setIfInBounds_toArray, List.set_cons_zero, List.set_cons_succ]
  replace hGl := hGl0.grown hW
  have hs13 := World.rangeAt_setCells_same w13 (b3) 0 (il 16 (d16 (sb ((0) % p) (((a) ^ (e) % p) * ((2) ^ (f) % p) % p)))) (by rw [il_length]; exact ht_b3)
  replace hW := grown_setCells hf_b3 (il 16 (d16 (sb ((0) % p) (((a) ^ (e) % p) * ((2) ^ (f) % p) % p)))) 0 hW
  replace hr_b0 := World.rangeAt_setCells_apart hr_b0 (b3) 0 (il 16 (d16 (sb ((0) % p) (((a) ^ (e) % p) * ((2) ^ (f) % p) % p)))) (.inl (hn_b0_b3))
  replace hr_b2 := World.rangeAt_setCells_apart hr_b2 (b3) 0 (il 16 (d16 (sb ((0) % p) (((a) ^ (e) % p) * ((2) ^ (f) % p) % p)))) (.inl (hn_b2_b3))
  replace hr_b4 := World.rangeAt_setCells_apart hr_b4 (b3) 0 (il 16 (d16 (sb ((0) % p) (((a) ^ (e) % p) * ((2) ^ (f) % p) % p)))) (.inl (Ne.symm hn_b3_b4))
  replace hr_b5 := World.rangeAt_setCells_apart hr_b5 (b3) 0 (il 16 (d16 (sb ((0) % p) (((a) ^ (e) % p) * ((2) ^ (f) % p) % p)))) (.inl (Ne.symm hn_b3_b5))
  replace hr_b6 := World.rangeAt_setCells_apart hr_b6 (b3) 0 (il 16 (d16 (sb ((0) % p) (((a) ^ (e) % p) * ((2) ^ (f) % p) % p)))) (.inl (Ne.symm hn_b3_b6))
  replace hr_b7 := World.rangeAt_setCells_apart hr_b7 (b3) 0 (il 16 (d16 (sb ((0) % p) (((a) ^ (e) % p) * ((2) ^ (f) % p) % p)))) (.inl (Ne.symm hn_b3_b7))
  replace hr_b8 := World.rangeAt_setCells_apart hr_b8 (b3) 0 (il 16 (d16 (sb ((0) % p) (((a) ^ (e) % p) * ((2) ^ (f) % p) % p)))) (.inl (Ne.symm hn_b3_b8))
  replace ht_b1 := World.there_setCells ht_b1 (b3) 0 (il 16 (d16 (sb ((0) % p) (((a) ^ (e) % p) * ((2) ^ (f) % p) % p))))
  replace ht_b2 := World.there_setCells ht_b2 (b3) 0 (il 16 (d16 (sb ((0) % p) (((a) ^ (e) % p) * ((2) ^ (f) % p) % p))))
  replace ht_b3 := World.there_setCells ht_b3 (b3) 0 (il 16 (d16 (sb ((0) % p) (((a) ^ (e) % p) * ((2) ^ (f) % p) % p))))
  replace ht_b4 := World.there_setCells ht_b4 (b3) 0 (il 16 (d16 (sb ((0) % p) (((a) ^ (e) % p) * ((2) ^ (f) % p) % p))))
  replace ht_b5 := World.there_setCells ht_b5 (b3) 0 (il 16 (d16 (sb ((0) % p) (((a) ^ (e) % p) * ((2) ^ (f) % p) % p))))
  replace ht_b6 := World.there_setCells ht_b6 (b3) 0 (il 16 (d16 (sb ((0) % p) (((a) ^ (e) % p) * ((2) ^ (f) % p) % p))))
  replace ht_b7 := World.there_setCells ht_b7 (b3) 0 (il 16 (d16 (sb ((0) % p) (((a) ^ (e) % p) * ((2) ^ (f) % p) % p))))
  replace ht_b8 := World.there_setCells ht_b8 (b3) 0 (il 16 (d16 (sb ((0) % p) (((a) ^ (e) % p) * ((2) ^ (f) % p) % p))))
  replace hGl := hGl0.grown hW
  generalize w13.setCells (b3) 0 (il 16 (d16 (sb ((0) % p) (((a) ^ (e) % p) * ((2) ^ (f) % p) % p)))) = w13s at *
  repeat ((fail_if_success (with_reducible show Code.wp _ (Code.region _ _ _) _ _ _)); go_step)
  refine wp_plain_fin [.val (sn (sb ((0) % p) (((a) ^ (e) % p) * ((2) ^ (f) % p) % p))), .fin] (b1) 0 (fun _ => il 16 (d16 (sb ((0) % p) (((a) ^ (e) % p) * ((2) ^ (f) % p) % p)))) (by kernel_rfl) (fun β => ?_) (fun β w14 hD => ?_)
  · refine Obs.cons (Ob.load (b3) 0 (il 16 (d16 (sb ((0) % p) (((a) ^ (e) % p) * ((2) ^ (f) % p) % p)))) rfl rfl (by kernel_rfl) hs13 Tryd.underlying45 rfl (by rw [il_length]; exact infoS)) ?_
    refine Obs.cons (Ob.fin rfl (by rw [il_length]; exact ht_b1) rfl (by kernel_rfl) (by kernel_rfl) (by rw [il_length]; exact infoS) (il_one _ _)) ?_
    exact Obs.nil
  replace hr_b0 := rangeAt_grown hr_b0 hD.gr
  replace hr_b2 := rangeAt_grown hr_b2 hD.gr
  replace hr_b4 := rangeAt_grown hr_b4 hD.gr
  replace hr_b5 := rangeAt_grown hr_b5 hD.gr
  replace hr_b6 := rangeAt_grown hr_b6 hD.gr
  replace hr_b7 := rangeAt_grown hr_b7 hD.gr
  replace hr_b8 := rangeAt_grown hr_b8 hD.gr
  replace hs13 := rangeAt_grown hs13 hD.gr
  replace ht_b1 := there_grown ht_b1 hD.gr
  replace ht_b2 := there_grown ht_b2 hD.gr
  replace ht_b3 := there_grown ht_b3 hD.gr
  replace ht_b4 := there_grown ht_b4 hD.gr
  replace ht_b5 := there_grown ht_b5 hD.gr
  replace ht_b6 := there_grown ht_b6 hD.gr
  replace ht_b7 := there_grown ht_b7 hD.gr
  replace ht_b8 := there_grown ht_b8 hD.gr
  replace hW := grown_trans hW hD.gr
  clear hD
  simp only [finAct, putAll, valsFrom, Plan.value, Act.put, List.setIfInBounds_toArray, List.set_cons_zero, List.set_cons_succ]
  replace hGl := hGl0.grown hW
  have hs14 := World.rangeAt_setCells_same w14 (b1) 0 (il 16 (d16 (sb ((0) % p) (((a) ^ (e) % p) * ((2) ^ (f) % p) % p)))) (by rw [il_length]; exact ht_b1)
  replace hW := grown_setCells hf_b1 (il 16 (d16 (sb ((0) % p) (((a) ^ (e) % p) * ((2) ^ (f) % p) % p)))) 0 hW
  generalize w14.setCells (b1) 0 (il 16 (d16 (sb ((0) % p) (((a) ^ (e) % p) * ((2) ^ (f) % p) % p)))) = w14s at *
  repeat go_step
  refine bodyPost_ret (v := sn (sb ((0) % p) (((a) ^ (e) % p) * ((2) ^ (f) % p) % p))) (result_cells Tryd.results72 _ _ (b1) _ ?hp hs14 Tryd.underlying45 rfl (by rw [il_length]; exact infoS)) ?hd ?_
  case hp => rfl
  case hd => rfl
  exact ⟨rfl, hW⟩

theorem ng_of (r : Nat) : sb ((0) % p) r = ng r := rfl
theorem Root_r (a : Nat) (ha : a < p) (h : hp a = 1) (w : World) (hGl0 : Gp w) : Calls Tryd.prog 72 #[sn a] w fun ex w' => ex = .returned (sn (rt a 1)) ∧ Grown w w' := by
  obtain ⟨e, he⟩ : ∃ e, Hid (e = Er) := ⟨Er, Hid.of rfl⟩
  obtain ⟨f, hf⟩ : ∃ f, Hid (f = Fr2) := ⟨Fr2, Hid.of rfl⟩
  have ha0 : a ≠ 0 := fun e0 => by
    subst e0
    exact absurd h (by rw [hp_zero (by decide +kernel)]; decide)
  have haS := lt_S ha
  by_cases hs : (a ^ e % p) * (a ^ e % p) % p = a
  · have hR := root_of_sq (Nat.mod_lt _ p_pos) hs ha0
    by_cases ho : (a ^ e % p) % 2 = 1
    · rw [if_pos ho] at hR
      have := Root_01 a e haS he hs ho w hGl0
      rw [ng_of] at this
      rw [rt_eq hR]; exact this
    · rw [if_neg ho] at hR
      rw [rt_eq hR]; exact Root_00 a e haS he hs ho w hGl0
  · have hR := root_of_sq (Nat.mod_lt _ p_pos) (er_turn ha h he.out hf.out hs) ha0
    by_cases ho : ((a ^ e % p) * (2 ^ f % p) % p) % 2 = 1
    · rw [if_pos ho] at hR
      have := Root_11 a e f haS he hf hs ho w hGl0
      rw [ng_of] at this
      rw [rt_eq hR]; exact this
    · rw [if_neg ho] at hR
      rw [rt_eq hR]; exact Root_10 a e f haS he hf hs ho w hGl0
end Go.Proofs.YtkegcilcapnpdaaDoor

namespace Go.Proofs.YtkegcilcapnpdaaDoor
open Go.RowKit Go.Shelf FieldNum

theorem rt_S (u v : Nat) : rt u v < S256 := le_S (rt_le u v)
set_option maxRecDepth 100000 in
set_option maxHeartbeats 4000000 in
theorem SqrtR_0 (u v : Nat) (hu : u < S256) (hv : v < S256) (h0 : u % p = 0) (w : World) (hGl0 : Gp w) : Calls Tryd.prog 36 #[bv u, bv v] w fun ex w' => ex = .returned (.tuple #[bv (0), .bool true]) ∧ Grown w w' := by
  have hW := Grown.refl w
  have hGl := hGl0
  go_enter Tryd.func36, Tryd.ntmps36
  repeat ((fail_if_success (with_reducible show Code.wp _ (Code.region _ _ _) _ _ _)); go_step)
  refine wp_plain [.box 23 (bl (u)), .box 23 (bl (v)), .new 23 32, .imm (.bool false)] (by kernel_rfl) (fun β => ?_) (fun β w1 hD => ?_)
  · refine Obs.cons (Ob.box rfl rfl (by kernel_rfl)) ?_
    refine Obs.cons (Ob.box rfl rfl (by kernel_rfl)) ?_
    refine Obs.cons (Ob.new _ rfl rfl zero32.1 (by simp [bl_length])) ?_
    refine Obs.cons (Ob.imm rfl (fun w => by kernel_rfl)) ?_
    exact Obs.nil
  obtain ⟨hf_b0, hr_b0⟩ := hD.bx 0 _ _ rfl
  replace hf_b0 := Nat.le_trans hW.2.2 hf_b0
  obtain ⟨hf_b1, hr_b1⟩ := hD.bx 1 _ _ rfl
  replace hf_b1 := Nat.le_trans hW.2.2 hf_b1
  obtain ⟨hf_b2, ht_b2⟩ := hD.nw 2 _ _ rfl
  replace hf_b2 := Nat.le_trans hW.2.2 hf_b2
  replace hW := grown_trans hW hD.gr
  clear hD
  simp only [finAct, putAll, valsFrom, Plan.value, Act.put, List.setIfInBounds_toArray, List.set_cons_zero, List.set_cons_succ]
  replace hGl := hGl0.grown hW
  generalize β 0 = b0 at *
  generalize β (0 + 1) = b1 at *
  generalize β (0 + 1 + 1) = b2 at *
  repeat ((fail_if_success (with_reducible show Code.wp _ (Code.region _ _ _) _ _ _)); go_step)
  refine wp_plain [.box 23 (bl (0))] (by kernel_rfl) (fun β => ?_) (fun β w2 hD => ?_)
  · refine Obs.cons (Ob.newz (bl (0)) rfl rfl zero32.1) ?_
    exact Obs.nil
  replace hr_b0 := rangeAt_grown hr_b0 hD.gr
  replace hr_b1 := rangeAt_grown hr_b1 hD.gr
  replace ht_b2 := there_grown ht_b2 hD.gr
  obtain ⟨hf_b3, hr_b3⟩ := hD.bx 0 _ _ rfl
  replace hf_b3 := Nat.le_trans hW.2.2 hf_b3
  replace hW := grown_trans hW hD.gr
  clear hD
  simp only [finAct, putAll, valsFrom, Plan.value, Act.put, List.setIfInBounds_toArray, List.set_cons_zero, List.set_cons_succ]
  replace hGl := hGl0.grown hW
  generalize β 0 = b3 at *
  repeat ((fail_if_success (with_reducible show Code.wp _ (Code.region _ _ _) _ _ _)); go_step)
  refine wp_plain [.val (bv (u)), .val (sn ((u) % p)), .new 45 16, .put 2 2 (fun _ => il 16 (d16 ((u) % p)))] (by kernel_rfl) (fun β => ?_) (fun β w3 hD => ?_)
  · refine Obs.cons (Ob.load (b0) 0 (bl (u)) rfl rfl (by kernel_rfl) hr_b0 Tryd.underlying23 rfl (by rw [bl_length]; exact info32)) ?_
    refine Obs.cons (Ob.call 62 #[bv (u)] rfl (fun w => by kernel_rfl) (fun w hg => From_r (u) hu w (hGl.grown hg))) ?_
    refine Obs.cons (Ob.new _ rfl rfl zeroS (by simp [il_length])) ?_
    refine Obs.cons (Ob.put 45 rfl rfl rfl (by kernel_rfl) (by kernel_rfl) (by rw [il_length]; exact infoS) (il_one _ _)) ?_
    exact Obs.nil
  replace hr_b0 := rangeAt_grown hr_b0 hD.gr
  replace hr_b1 := rangeAt_grown hr_b1 hD.gr
  replace hr_b3 := rangeAt_grown hr_b3 hD.gr
  replace ht_b2 := there_grown ht_b2 hD.gr
  obtain ⟨hf_b4, ht_b4⟩ := hD.nw 2 _ _ rfl
  have hr_b4 : w3.rangeAt (β 2) 0 (il 16 (d16 ((u) % p))) := hD.rg 3 2 2 (fun _ => il 16 (d16 ((u) % p))) rfl
  replace hf_b4 := Nat.le_trans hW.2.2 hf_b4
  replace hW := grown_trans hW hD.gr
  clear hD
  simp only [finAct, putAll, valsFrom, Plan.value, Act.put, List.setIfInBounds_toArray, List.set_cons_zero, List.set_cons_succ]
  replace hGl := hGl0.grown hW
  generalize β (0 + 1 + 1) = b4 at *
  repeat ((fail_if_success (with_reducible show Code.wp _ (Code.region _ _ _) _ _ _)); go_step)
  refine wp_plain [.val (bv (v)), .val (sn ((v) % p)), .new 45 16, .put 2 2 (fun _ => il 16 (d16 ((v) % p)))] (by kernel_rfl) (fun β => ?_) (fun β w4 hD => ?_)
  · refine Obs.cons (Ob.load (b1) 0 (bl (v)) rfl rfl (by kernel_rfl) hr_b1 Tryd.underlying23 rfl (by rw [bl_length]; exact info32)) ?_
    refine Obs.cons (Ob.call 62 #[bv (v)] rfl (fun w => by kernel_rfl) (fun w hg => From_r (v) hv w (hGl.grown hg))) ?_
    refine Obs.cons (Ob.new _ rfl rfl zeroS (by simp [il_length])) ?_
    refine Obs.cons (Ob.put 45 rfl rfl rfl (by kernel_rfl) (by kernel_rfl) (by rw [il_length]; exact infoS) (il_one _ _)) ?_
    exact Obs.nil
  replace hr_b0 := rangeAt_grown hr_b0 hD.gr
  replace hr_b1 := rangeAt_grown hr_b1 hD.gr
  replace hr_b3 := rangeAt_grown hr_b3 hD.gr
  replace hr_b4 := rangeAt_grown hr_b4 hD.gr
  replace ht_b2 := there_grown ht_b2 hD.gr
  replace ht_b4 := there_grown ht_b4 hD.gr
  obtain ⟨hf_b5, ht_b5⟩ := hD.nw 2 _ _ rfl
  have hr_b5 : w4.rangeAt (β 2) 0 (il 16 (d16 ((v) % p))) := hD.rg 3 2 2 (fun _ => il 16 (d16 ((v) % p))) rfl
  replace hf_b5 := Nat.le_trans hW.2.2 hf_b5
  replace hW := grown_trans hW hD.gr
  clear hD
  simp only [finAct, putAll, valsFrom, Plan.value, Act.put, List.setIfInBounds_toArray, List.set_cons_zero, List.set_cons_succ]
  replace hGl := hGl0.grown hW
  generalize β (0 + 1 + 1) = b5 at *
  repeat ((fail_if_success (with_reducible show Code.wp _ (Code.region _ _ _) _ _ _)); go_step)
  refine wp_plain [.val (sn ((u) % p)), .val (.bool true)] (by kernel_rfl) (fun β => ?_) (fun β w5 hD => ?_)
  · refine Obs.cons (Ob.load (b4) 0 (il 16 (d16 ((u) % p))) rfl rfl (by kernel_rfl) hr_b4 Tryd.underlying45 rfl (by rw [il_length]; exact infoS)) ?_
    refine Obs.cons (Ob.call 70 #[sn ((u) % p)] rfl (fun w => by kernel_rfl) (fun w hg => Zero_b ((u) % p) (mod_S _) true (decide_eq_true h0) w)) ?_
    exact Obs.nil
  replace hr_b0 := rangeAt_grown hr_b0 hD.gr
  replace hr_b1 := rangeAt_grown hr_b1 hD.gr
  replace hr_b3 := rangeAt_grown hr_b3 hD.gr
  replace hr_b4 := rangeAt_grown hr_b4 hD.gr
  replace hr_b5 := rangeAt_grown hr_b5 hD.gr
  replace ht_b2 := there_grown ht_b2 hD.gr
  replace ht_b4 := there_grown ht_b4 hD.gr
  replace ht_b5 := there_grown ht_b5 hD.gr
  replace hW := grown_trans hW hD.gr
  clear hD
  simp only [finAct, putAll, valsFrom, Plan.value, Act.put, List.setIfInBounds_toArray, List.set_cons_zero, List.set_cons_succ]
  replace hGl := hGl0.grown hW
  repeat ((fail_if_success (with_reducible show Code.wp _ (Code.region _ _ _) _ _ _)); go_step)
  refine wp_plain_fin [.val (bv (0)), .fin, .imm (.bool true)] (b2) 0 (fun _ => bl (0)) (by kernel_rfl) (fun β => ?_) (fun β w6 hD => ?_)
  · refine Obs.cons (Ob.load (b3) 0 (bl (0)) rfl rfl (by kernel_rfl) hr_b3 Tryd.underlying23 rfl (by rw [bl_length]; exact info32)) ?_
    refine Obs.cons (Ob.fin rfl (by rw [bl_length]; exact ht_b2) rfl (by kernel_rfl) (by kernel_rfl) (by rw [bl_length]; exact info32) (bl_one _)) ?_
    refine Obs.cons (Ob.imm rfl (fun w => by kernel_rfl)) ?_
    exact Obs.nil
  replace hr_b0 := rangeAt_grown hr_b0 hD.gr
  replace hr_b1 := rangeAt_grown hr_b1 hD.gr
  replace hr_b3 := rangeAt_grown hr_b3 hD.gr
  replace hr_b4 := rangeAt_grown hr_b4 hD.gr
  replace hr_b5 := rangeAt_grown hr_b5 hD.gr
  replace ht_b2 := there_grown ht_b2 hD.gr
  replace ht_b4 := there_grown ht_b4 hD.gr
  replace ht_b5 := there_grown ht_b5 hD.gr
  replace hW := grown_trans hW hD.gr
  clear hD
  simp only [finAct, putAll, valsFrom, Plan.value, Act.put, List.setIfInBounds_toArray, List.set_cons_zero, List.set_cons_succ]
  replace hGl := hGl0.grown hW
  have hs6 := World.rangeAt_setCells_same w6 (b2) 0 (bl (0)) (by rw [bl_length]; exact ht_b2)
  replace hW := grown_setCells hf_b2 (bl (0)) 0 hW
  generalize w6.setCells (b2) 0 (bl (0)) = w6s at *
  repeat go_step
  refine bodyPost_ret (v := .tuple #[bv (0), .bool true]) (result_cell_tmp Tryd.results36 _ _ (b2) _ (.bool true) ?hp ?hv hs6 Tryd.underlying23 rfl (by rw [bl_length]; exact info32)) ?hd ?_
  case hp => rfl
  case hv => rfl
  case hd => rfl
  exact ⟨rfl, hW⟩

set_option maxRecDepth 100000 in
set_option maxHeartbeats 4000000 in
theorem SqrtR_1 (u v : Nat) (hu : u < S256) (hv : v < S256) (h0 : ¬ u % p = 0) (h1 : v % p = 0) (w : World) (hGl0 : Gp w) : Calls Tryd.prog 36 #[bv u, bv v] w fun ex w' => ex = .returned (.tuple #[bv (0), .bool false]) ∧ Grown w w' := by
  have hW := Grown.refl w
  have hGl := hGl0
  go_enter Tryd.func36, Tryd.ntmps36
  repeat ((fail_if_success (with_reducible show Code.wp _ (Code.region _ _ _) _ _ _)); go_step)
  refine wp_plain [.box 23 (bl (u)), .box 23 (bl (v)), .new 23 32, .imm (.bool false)] (by kernel_rfl) (fun β => ?_) (fun β w1 hD => ?_)
  · refine Obs.cons (Ob.box rfl rfl (by kernel_rfl)) ?_
    refine Obs.cons (Ob.box rfl rfl (by kernel_rfl)) ?_
    refine Obs.cons (Ob.new _ rfl rfl zero32.1 (by simp [bl_length])) ?_
    refine Obs.cons (Ob.imm rfl (fun w => by kernel_rfl)) ?_
    exact Obs.nil
  obtain ⟨hf_b0, hr_b0⟩ := hD.bx 0 _ _ rfl
  replace hf_b0 := Nat.le_trans hW.2.2 hf_b0
  obtain ⟨hf_b1, hr_b1⟩ := hD.bx 1 _ _ rfl
  replace hf_b1 := Nat.le_trans hW.2.2 hf_b1
  obtain ⟨hf_b2, ht_b2⟩ := hD.nw 2 _ _ rfl
  replace hf_b2 := Nat.le_trans hW.2.2 hf_b2
  replace hW := grown_trans hW hD.gr
  clear hD
  simp only [finAct, putAll, valsFrom, Plan.value, Act.put, List.setIfInBounds_toArray, List.set_cons_zero, List.set_cons_succ]
  replace hGl := hGl0.grown hW
  generalize β 0 = b0 at *
  generalize β (0 + 1) = b1 at *
  generalize β (0 + 1 + 1) = b2 at *
  repeat ((fail_if_success (with_reducible show Code.wp _ (Code.region _ _ _) _ _ _)); go_step)
  refine wp_plain [.box 23 (bl (0))] (by kernel_rfl) (fun β => ?_) (fun β w2 hD => ?_)
  · refine Obs.cons (Ob.newz (bl (0)) rfl rfl zero32.1) ?_
    exact Obs.nil
  replace hr_b0 := rangeAt_grown hr_b0 hD.gr
  replace hr_b1 := rangeAt_grown hr_b1 hD.gr
  replace ht_b2 := there_grown ht_b2 hD.gr
  obtain ⟨hf_b3, hr_b3⟩ := hD.bx 0 _ _ rfl
  replace hf_b3 := Nat.le_trans hW.2.2 hf_b3
  replace hW := grown_trans hW hD.gr
  clear hD
  simp only [finAct, putAll, valsFrom, Plan.value, Act.put, List.setIfInBounds_toArray, List.set_cons_zero, List.set_cons_succ]
  replace hGl := hGl0.grown hW
  generalize β 0 = b3 at *
  repeat ((fail_if_success (with_reducible show Code.wp _ (Code.region _ _ _) _ _ _)); go_step)
  refine wp_plain [.val (bv (u)), .val (sn ((u) % p)), .new 45 16, .put 2 2 (fun _ => il 16 (d16 ((u) % p)))] (by kernel_rfl) (fun β => ?_) (fun β w3 hD => ?_)
  · refine Obs.cons (Ob.load (b0) 0 (bl (u)) rfl rfl (by kernel_rfl) hr_b0 Tryd.underlying23 rfl (by rw [bl_length]; exact info32)) ?_
    refine Obs.cons (Ob.call 62 #[bv (u)] rfl (fun w => by kernel_rfl) (fun w hg => From_r (u) hu w (hGl.grown hg))) ?_
    refine Obs.cons (Ob.new _ rfl rfl zeroS (by simp [il_length])) ?_
    refine Obs.cons (Ob.put 45 rfl rfl rfl (by kernel_rfl) (by kernel_rfl) (by rw [il_length]; exact infoS) (il_one _ _)) ?_
    exact Obs.nil
  replace hr_b0 := rangeAt_grown hr_b0 hD.gr
  replace hr_b1 := rangeAt_grown hr_b1 hD.gr
  replace hr_b3 := rangeAt_grown hr_b3 hD.gr
  replace ht_b2 := there_grown ht_b2 hD.gr
  obtain ⟨hf_b4, ht_b4⟩ := hD.nw 2 _ _ rfl
  have hr_b4 : w3.rangeAt (β 2) 0 (il 16 (d16 ((u) % p))) := hD.rg 3 2 2 (fun _ => il 16 (d16 ((u) % p))) rfl
  replace hf_b4 := Nat.le_trans hW.2.2 hf_b4
  replace hW := grown_trans hW hD.gr
  clear hD
  simp only [finAct, putAll, valsFrom, Plan.value, Act.put, List.setIfInBounds_toArray, List.set_cons_zero, List.set_cons_succ]
  replace hGl := hGl0.grown hW
  generalize β (0 + 1 + 1) = b4 at *
  repeat ((fail_if_success (with_reducible show Code.wp _ (Code.region _ _ _) _ _ _)); go_step)
  refine wp_plain [.val (bv (v)), .val (sn ((v) % p)), .new 45 16, .put 2 2 (fun _ => il 16 (d16 ((v) % p)))] (by kernel_rfl) (fun β => ?_) (fun β w4 hD => ?_)
  · refine Obs.cons (Ob.load (b1) 0 (bl (v)) rfl rfl (by kernel_rfl) hr_b1 Tryd.underlying23 rfl (by rw [bl_length]; exact info32)) ?_
    refine Obs.cons (Ob.call 62 #[bv (v)] rfl (fun w => by kernel_rfl) (fun w hg => From_r (v) hv w (hGl.grown hg))) ?_
    refine Obs.cons (Ob.new _ rfl rfl zeroS (by simp [il_length])) ?_
    refine Obs.cons (Ob.put 45 rfl rfl rfl (by kernel_rfl) (by kernel_rfl) (by rw [il_length]; exact infoS) (il_one _ _)) ?_
    exact Obs.nil
  replace hr_b0 := rangeAt_grown hr_b0 hD.gr
  replace hr_b1 := rangeAt_grown hr_b1 hD.gr
  replace hr_b3 := rangeAt_grown hr_b3 hD.gr
  replace hr_b4 := rangeAt_grown hr_b4 hD.gr
  replace ht_b2 := there_grown ht_b2 hD.gr
  replace ht_b4 := there_grown ht_b4 hD.gr
  obtain ⟨hf_b5, ht_b5⟩ := hD.nw 2 _ _ rfl
  have hr_b5 : w4.rangeAt (β 2) 0 (il 16 (d16 ((v) % p))) := hD.rg 3 2 2 (fun _ => il 16 (d16 ((v) % p))) rfl
  replace hf_b5 := Nat.le_trans hW.2.2 hf_b5
  replace hW := grown_trans hW hD.gr
  clear hD
  simp only [finAct, putAll, valsFrom, Plan.value, Act.put, List.setIfInBounds_toArray, List.set_cons_zero, List.set_cons_succ]
  replace hGl := hGl0.grown hW
  generalize β (0 + 1 + 1) = b5 at *
  repeat ((fail_if_success (with_reducible show Code.wp _ (Code.region _ _ _) _ _ _)); go_step)
  refine wp_plain [.val (sn ((u) % p)), .val (.bool false)] (by kernel_rfl) (fun β => ?_) (fun β w5 hD => ?_)
  · refine Obs.cons (Ob.load (b4) 0 (il 16 (d16 ((u) % p))) rfl rfl (by kernel_rfl) hr_b4 Tryd.underlying45 rfl (by rw [il_length]; exact infoS)) ?_
    refine Obs.cons (Ob.call 70 #[sn ((u) % p)] rfl (fun w => by kernel_rfl) (fun w hg => Zero_b ((u) % p) (mod_S _) false (decide_eq_false h0) w)) ?_
    exact Obs.nil
  replace hr_b0 := rangeAt_grown hr_b0 hD.gr
  replace hr_b1 := rangeAt_grown hr_b1 hD.gr
  replace hr_b3 := rangeAt_grown hr_b3 hD.gr
  replace hr_b4 := rangeAt_grown hr_b4 hD.gr
  replace hr_b5 := rangeAt_grown hr_b5 hD.gr
  replace ht_b2 := there_grown ht_b2 hD.gr
  replace ht_b4 := there_grown ht_b4 hD.gr
  replace ht_b5 := there_grown ht_b5 hD.gr
  replace hW := grown_trans hW hD.gr
  clear hD
  simp only [finAct, putAll, valsFrom, Plan.value, Act.put, List.setIfInBounds_toArray, List.set_cons_zero, List.set_cons_succ]
  replace hGl := hGl0.grown hW
  repeat ((fail_if_success (with_reducible show Code.wp _ (Code.region _ _ _) _ _ _)); go_step)
  refine wp_plain [.val (sn ((v) % p)), .val (.bool true)] (by kernel_rfl) (fun β => ?_) (fun β w6 hD => ?_)
  · refine Obs.cons (Ob.load (b5) 0 (il 16 (d16 ((v) % p))) rfl rfl (by kernel_rfl) hr_b5 Tryd.underlying45 rfl (by rw [il_length]; exact infoS)) ?_
    refine Obs.cons (Ob.call 70 #[sn ((v) % p)] rfl (fun w => by kernel_rfl) (fun w hg => Zero_b ((v) % p) (mod_S _) true (decide_eq_true h1) w)) ?_
    exact Obs.nil
  replace hr_b0 := rangeAt_grown hr_b0 hD.gr
  replace hr_b1 := rangeAt_grown hr_b1 hD.gr
  replace hr_b3 := rangeAt_grown hr_b3 hD.gr
  replace hr_b4 := rangeAt_grown hr_b4 hD.gr
  replace hr_b5 := rangeAt_grown hr_b5 hD.gr
  replace ht_b2 := there_grown ht_b2 hD.gr
  replace ht_b4 := there_grown ht_b4 hD.gr
  replace ht_b5 := there_grown ht_b5 hD.gr
  replace hW := grown_trans hW hD.gr
  clear hD
  simp only [finAct, putAll, valsFrom, Plan.value, Act.put, List.setIfInBounds_toArray, List.set_cons_zero, List.set_cons_succ]
  replace hGl := hGl0.grown hW
  repeat ((fail_if_success (with_reducible show Code.wp _ (Code.region _ _ _) _ _ _)); go_step)
  refine wp_plain_fin [.val (bv (0)), .fin, .imm (.bool false)] (b2) 0 (fun _ => bl (0)) (by kernel_rfl) (fun β => ?_) (fun β w7 hD => ?_)
  · refine Obs.cons (Ob.load (b3) 0 (bl (0)) rfl rfl (by kernel_rfl) hr_b3 Tryd.underlying23 rfl (by rw [bl_length]; exact info32)) ?_
    refine Obs.cons (Ob.fin rfl (by rw [bl_length]; exact ht_b2) rfl (by kernel_rfl) (by kernel_rfl) (by rw [bl_length]; exact info32) (bl_one _)) ?_
    refine Obs.cons (Ob.imm rfl (fun w => by kernel_rfl)) ?_
    exact Obs.nil
  replace hr_b0 := rangeAt_grown hr_b0 hD.gr
  replace hr_b1 := rangeAt_grown hr_b1 hD.gr
  replace hr_b3 := rangeAt_grown hr_b3 hD.gr
  replace hr_b4 := rangeAt_grown hr_b4 hD.gr
  replace hr_b5 := rangeAt_grown hr_b5 hD.gr
  replace ht_b2 := there_grown ht_b2 hD.gr
  replace ht_b4 := there_grown ht_b4 hD.gr
  replace ht_b5 := there_grown ht_b5 hD.gr
  replace hW := grown_trans hW hD.gr
  clear hD
  simp only [finAct, putAll, valsFrom, Plan.value, Act.put, List.setIfInBounds_toArray, List.set_cons_zero, List.set_cons_succ]
  replace hGl := hGl0.grown hW
  have hs7 := World.rangeAt_setCells_same w7 (b2) 0 (bl (0)) (by rw [bl_length]; exact ht_b2)
  replace hW := grown_setCells hf_b2 (bl (0)) 0 hW
  generalize w7.setCells (b2) 0 (bl (0)) = w7s at *
  repeat go_step
  refine bodyPost_ret (v := .tuple #[bv (0), .bool false]) (result_cell_tmp Tryd.results36 _ _ (b2) _ (.bool false) ?hp ?hv hs7 Tryd.underlying23 rfl (by rw [bl_length]; exact info32)) ?hd ?_
  case hp => rfl
  case hv => rfl
  case hd => rfl
  exact ⟨rfl, hW⟩

set_option maxRecDepth 100000 in
set_option maxHeartbeats 4000000 in
theorem SqrtR_2 (u v : Nat) (hu : u < S256) (hv : v < S256) (h0 : ¬ u % p = 0) (h1 : ¬ v % p = 0) (hl : ¬ leg (((u) % p) * (inv ((v) % p)) % p) = 1) (w : World) (hGl0 : Gp w) : Calls Tryd.prog 36 #[bv u, bv v] w fun ex w' => ex = .returned (.tuple #[bv (0), .bool false]) ∧ Grown w w' := by
  have hW := Grown.refl w
  have hGl := hGl0
  go_enter Tryd.func36, Tryd.ntmps36
  repeat ((fail_if_success (with_reducible show Code.wp _ (Code.region _ _ _) _ _ _)); go_step)
  refine wp_plain [.box 23 (bl (u)), .box 23 (bl (v)), .new 23 32, .imm (.bool false)] (by kernel_rfl) (fun β => ?_) (fun β w1 hD => ?_)
  · refine Obs.cons (Ob.box rfl rfl (by kernel_rfl)) ?_
    refine Obs.cons (Ob.box rfl rfl (by kernel_rfl)) ?_
    refine Obs.cons (Ob.new _ rfl rfl zero32.1 (by simp [bl_length])) ?_
    refine Obs.cons (Ob.imm rfl (fun w => by kernel_rfl)) ?_
    exact Obs.nil
  obtain ⟨hf_b0, hr_b0⟩ := hD.bx 0 _ _ rfl
  replace hf_b0 := Nat.le_trans hW.2.2 hf_b0
  obtain ⟨hf_b1, hr_b1⟩ := hD.bx 1 _ _ rfl
  replace hf_b1 := Nat.le_trans hW.2.2 hf_b1
  obtain ⟨hf_b2, ht_b2⟩ := hD.nw 2 _ _ rfl
  replace hf_b2 := Nat.le_trans hW.2.2 hf_b2
  replace hW := grown_trans hW hD.gr
  clear hD
  simp only [finAct, putAll, valsFrom, Plan.value, Act.put, List.setIfInBounds_toArray, List.set_cons_zero, List.set_cons_succ]
  replace hGl := hGl0.grown hW
  generalize β 0 = b0 at *
  generalize β (0 + 1) = b1 at *
  generalize β (0 + 1 + 1) = b2 at *
  repeat ((fail_if_success (with_reducible show Code.wp _ (Code.region _ _ _) _ _ _)); go_step)
  refine wp_plain [.box 23 (bl (0))] (by kernel_rfl) (fun β => ?_) (fun β w2 hD => ?_)
  · refine Obs.cons (Ob.newz (bl (0)) rfl rfl zero32.1) ?_
    exact Obs.nil
  replace hr_b0 := rangeAt_grown hr_b0 hD.gr
  replace hr_b1 := rangeAt_grown hr_b1 hD.gr
  replace ht_b2 := there_grown ht_b2 hD.gr
  obtain ⟨hf_b3, hr_b3⟩ := hD.bx 0 _ _ rfl
  replace hf_b3 := Nat.le_trans hW.2.2 hf_b3
  replace hW := grown_trans hW hD.gr
  clear hD
  simp only [finAct, putAll, valsFrom, Plan.value, Act.put, List.setIfInBounds_toArray, List.set_cons_zero, List.set_cons_succ]
  replace hGl := hGl0.grown hW
  generalize β 0 = b3 at *
  repeat ((fail_if_success (with_reducible show Code.wp _ (Code.region _ _ _) _ _ _)); go_step)
  refine wp_plain [.val (bv (u)), .val (sn ((u) % p)), .new 45 16, .put 2 2 (fun _ => il 16 (d16 ((u) % p)))] (by kernel_rfl) (fun β => ?_) (fun β w3 hD => ?_)
  · refine Obs.cons (Ob.load (b0) 0 (bl (u)) rfl rfl (by kernel_rfl) hr_b0 Tryd.underlying23 rfl (by rw [bl_length]; exact info32)) ?_
    refine Obs.cons (Ob.call 62 #[bv (u)] rfl (fun w => by kernel_rfl) (fun w hg => From_r (u) hu w (hGl.grown hg))) ?_
    refine Obs.cons (Ob.new _ rfl rfl zeroS (by simp [il_length])) ?_
    refine Obs.cons (Ob.put 45 rfl rfl rfl (by kernel_rfl) (by kernel_rfl) (by rw [il_length]; exact infoS) (il_one _ _)) ?_
    exact Obs.nil
  replace hr_b0 := rangeAt_grown hr_b0 hD.gr
  replace hr_b1 := rangeAt_grown hr_b1 hD.gr
  replace hr_b3 := rangeAt_grown hr_b3 hD.gr
  replace ht_b2 := there_grown ht_b2 hD.gr
  obtain ⟨hf_b4, ht_b4⟩ := hD.nw 2 _ _ rfl
  have hr_b4 : w3.rangeAt (β 2) 0 (il 16 (d16 ((u) % p))) := hD.rg 3 2 2 (fun _ => il 16 (d16 ((u) % p))) rfl
  replace hf_b4 := Nat.le_trans hW.2.2 hf_b4
  replace hW := grown_trans hW hD.gr
  clear hD
  simp only [finAct, putAll, valsFrom, Plan.value, Act.put, List.setIfInBounds_toArray, List.set_cons_zero, List.set_cons_succ]
  replace hGl := hGl0.grown hW
  generalize β (0 + 1 + 1) = b4 at *
  repeat ((fail_if_success (with_reducible show Code.wp _ (Code.region _ _ _) _ _ _)); go_step)
  refine wp_plain [.val (bv (v)), .val (sn ((v) % p)), .new 45 16, .put 2 2 (fun _ => il 16 (d16 ((v) % p)))] (by kernel_rfl) (fun β => ?_) (fun β w4 hD => ?_)
  · refine Obs.cons (Ob.load (b1) 0 (bl (v)) rfl rfl (by kernel_rfl) hr_b1 Tryd.underlying23 rfl (by rw [bl_length]; exact info32)) ?_
    refine Obs.cons (Ob.call 62 #[bv (v)] rfl (fun w => by kernel_rfl) (fun w hg => From_r (v) hv w (hGl.grown hg))) ?_
    refine Obs.cons (Ob.new _ rfl rfl zeroS (by simp [il_length])) ?_
    refine Obs.cons (Ob.put 45 rfl rfl rfl (by kernel_rfl) (by kernel_rfl) (by rw [il_length]; exact infoS) (il_one _ _)) ?_
    exact Obs.nil
  replace hr_b0 := rangeAt_grown hr_b0 hD.gr
  replace hr_b1 := rangeAt_grown hr_b1 hD.gr
  replace hr_b3 := rangeAt_grown hr_b3 hD.gr
  replace hr_b4 := rangeAt_grown hr_b4 hD.gr
  replace ht_b2 := there_grown ht_b2 hD.gr
  replace ht_b4 := there_grown ht_b4 hD.gr
  obtain ⟨hf_b5, ht_b5⟩ := hD.nw 2 _ _ rfl
  have hr_b5 : w4.rangeAt (β 2) 0 (il 16 (d16 ((v) % p))) := hD.rg 3 2 2 (fun _ => il 16 (d16 ((v) % p))) rfl
  replace hf_b5 := Nat.le_trans hW.2.2 hf_b5
  replace hW := grown_trans hW hD.gr
  clear hD
  simp only [finAct, putAll, valsFrom, Plan.value, Act.put, List.setIfInBounds_toArray, List.set_cons_zero, List.set_cons_succ]
  replace hGl := hGl0.grown hW
  generalize β (0 + 1 + 1) = b5 at *
  repeat ((fail_if_success (with_reducible show Code.wp _ (Code.region _ _ _) _ _ _)); go_step)
  refine wp_plain [.val (sn ((u) % p)), .val (.bool false)] (by kernel_rfl) (fun β => ?_) (fun β w5 hD => ?_)
  · refine Obs.cons (Ob.load (b4) 0 (il 16 (d16 ((u) % p))) rfl rfl (by kernel_rfl) hr_b4 Tryd.underlying45 rfl (by rw [il_length]; exact infoS)) ?_
    refine Obs.cons (Ob.call 70 #[sn ((u) % p)] rfl (fun w => by kernel_rfl) (fun w hg => Zero_b ((u) % p) (mod_S _) false (decide_eq_false h0) w)) ?_
    exact Obs.nil
  replace hr_b0 := rangeAt_grown hr_b0 hD.gr
  replace hr_b1 := rangeAt_grown hr_b1 hD.gr
  replace hr_b3 := rangeAt_grown hr_b3 hD.gr
  replace hr_b4 := rangeAt_grown hr_b4 hD.gr
  replace hr_b5 := rangeAt_grown hr_b5 hD.gr
  replace ht_b2 := there_grown ht_b2 hD.gr
  replace ht_b4 := there_grown ht_b4 hD.gr
  replace ht_b5 := there_grown ht_b5 hD.gr
  replace hW := grown_trans hW hD.gr
  clear hD
  simp only [finAct, putAll, valsFrom, Plan.value, Act.put, List.setIfInBounds_toArray, List.set_cons_zero, List.set_cons_succ]
  replace hGl := hGl0.grown hW
  repeat ((fail_if_success (with_reducible show Code.wp _ (Code.region _ _ _) _ _ _)); go_step)
  refine wp_plain [.val (sn ((v) % p)), .val (.bool false)] (by kernel_rfl) (fun β => ?_) (fun β w6 hD => ?_)
  · refine Obs.cons (Ob.load (b5) 0 (il 16 (d16 ((v) % p))) rfl rfl (by kernel_rfl) hr_b5 Tryd.underlying45 rfl (by rw [il_length]; exact infoS)) ?_
    refine Obs.cons (Ob.call 70 #[sn ((v) % p)] rfl (fun w => by kernel_rfl) (fun w hg => Zero_b ((v) % p) (mod_S _) false (decide_eq_false h1) w)) ?_
    exact Obs.nil
  replace hr_b0 := rangeAt_grown hr_b0 hD.gr
  replace hr_b1 := rangeAt_grown hr_b1 hD.gr
  replace hr_b3 := rangeAt_grown hr_b3 hD.gr
  replace hr_b4 := rangeAt_grown hr_b4 hD.gr
  replace hr_b5 := rangeAt_grown hr_b5 hD.gr
  replace ht_b2 := there_grown ht_b2 hD.gr
  replace ht_b4 := there_grown ht_b4 hD.gr
  replace ht_b5 := there_grown ht_b5 hD.gr
  replace hW := grown_trans hW hD.gr
  clear hD
  simp only [finAct, putAll, valsFrom, Plan.value, Act.put, List.setIfInBounds_toArray, List.set_cons_zero, List.set_cons_succ]
  replace hGl := hGl0.grown hW
  repeat ((fail_if_success (with_reducible show Code.wp _ (Code.region _ _ _) _ _ _)); go_step)
  refine wp_plain [.val (sn ((v) % p)), .val (sn (inv ((v) % p))), .new 45 16, .put 2 2 (fun _ => il 16 (d16 (inv ((v) % p))))] (by kernel_rfl) (fun β => ?_) (fun β w7 hD => ?_)
  · refine Obs.cons (Ob.load (b5) 0 (il 16 (d16 ((v) % p))) rfl rfl (by kernel_rfl) hr_b5 Tryd.underlying45 rfl (by rw [il_length]; exact infoS)) ?_
    refine Obs.cons (Ob.call 69 #[sn ((v) % p)] rfl (fun w => by kernel_rfl) (fun w hg => Inverse_r ((v) % p) (mod_S _) w (hGl.grown hg))) ?_
    refine Obs.cons (Ob.new _ rfl rfl zeroS (by simp [il_length])) ?_
    refine Obs.cons (Ob.put 45 rfl rfl rfl (by kernel_rfl) (by kernel_rfl) (by rw [il_length]; exact infoS) (il_one _ _)) ?_
    exact Obs.nil
  replace hr_b0 := rangeAt_grown hr_b0 hD.gr
  replace hr_b1 := rangeAt_grown hr_b1 hD.gr
  replace hr_b3 := rangeAt_grown hr_b3 hD.gr
  replace hr_b4 := rangeAt_grown hr_b4 hD.gr
  replace hr_b5 := rangeAt_grown hr_b5 hD.gr
  replace ht_b2 := there_grown ht_b2 hD.gr
  replace ht_b4 := there_grown ht_b4 hD.gr
  replace ht_b5 := there_grown ht_b5 hD.gr
  obtain ⟨hf_b6, ht_b6⟩ := hD.nw 2 _ _ rfl
  have hr_b6 : w7.rangeAt (β 2) 0 (il 16 (d16 (inv ((v) % p)))) := hD.rg 3 2 2 (fun _ => il 16 (d16 (inv ((v) % p)))) rfl
  replace hf_b6 := Nat.le_trans hW.2.2 hf_b6
  replace hW := grown_trans hW hD.gr
  clear hD
  simp only [finAct, putAll, valsFrom, Plan.value, Act.put, List.setIfInBounds_toArray, List.set_cons_zero, List.set_cons_succ]
  replace hGl := hGl0.grown hW
  generalize β (0 + 1 + 1) = b6 at *
  repeat ((fail_if_success (with_reducible show Code.wp _ (Code.region _ _ _) _ _ _)); go_step)
  refine wp_plain [.val (sn ((u) % p)), .val (sn (inv ((v) % p))), .val (sn (((u) % p) * (inv ((v) % p)) % p)), .new 45 16, .put 3 3 (fun _ => il 16 (d16 (((u) % p) * (inv ((v) % p)) % p)))] (by kernel_rfl) (fun β => ?_) (fun β w8 hD => ?_)
  · refine Obs.cons (Ob.load (b4) 0 (il 16 (d16 ((u) % p))) rfl rfl (by kernel_rfl) hr_b4 Tryd.underlying45 rfl (by rw [il_length]; exact infoS)) ?_
    refine Obs.cons (Ob.load (b6) 0 (il 16 (d16 (inv ((v) % p)))) rfl rfl (by kernel_rfl) hr_b6 Tryd.underlying45 rfl (by rw [il_length]; exact infoS)) ?_
    refine Obs.cons (Ob.call 63 #[sn ((u) % p), sn (inv ((v) % p))] rfl (fun w => by kernel_rfl) (fun w hg => Times_r ((u) % p) (inv ((v) % p)) (mod_S _) (inv_S _) w (hGl.grown hg))) ?_
    refine Obs.cons (Ob.new _ rfl rfl zeroS (by simp [il_length])) ?_
    refine Obs.cons (Ob.put 45 rfl rfl rfl (by kernel_rfl) (by kernel_rfl) (by rw [il_length]; exact infoS) (il_one _ _)) ?_
    exact Obs.nil
  replace hr_b0 := rangeAt_grown hr_b0 hD.gr
  replace hr_b1 := rangeAt_grown hr_b1 hD.gr
  replace hr_b3 := rangeAt_grown hr_b3 hD.gr
  replace hr_b4 := rangeAt_grown hr_b4 hD.gr
  replace hr_b5 := rangeAt_grown hr_b5 hD.gr
  replace hr_b6 := rangeAt_grown hr_b6 hD.gr
  replace ht_b2 := there_grown ht_b2 hD.gr
  replace ht_b4 := there_grown ht_b4 hD.gr
  replace ht_b5 := there_grown ht_b5 hD.gr
  replace ht_b6 := there_grown ht_b6 hD.gr
  obtain ⟨hf_b7, ht_b7⟩ := hD.nw 3 _ _ rfl
  have hr_b7 : w8.rangeAt (β 3) 0 (il 16 (d16 (((u) % p) * (inv ((v) % p)) % p))) := hD.rg 4 3 3 (fun _ => il 16 (d16 (((u) % p) * (inv ((v) % p)) % p))) rfl
  replace hf_b7 := Nat.le_trans hW.2.2 hf_b7
  replace hW := grown_trans hW hD.gr
  clear hD
  simp only [finAct, putAll, valsFrom, Plan.value, Act.put, List.setIfInBounds_toArray, List.set_cons_zero, List.set_cons_succ]
  replace hGl := hGl0.grown hW
  generalize β (0 + 1 + 1 + 1) = b7 at *
  repeat ((fail_if_success (with_reducible show Code.wp _ (Code.region _ _ _) _ _ _)); go_step)
  refine wp_plain [.val (sn (((u) % p) * (inv ((v) % p)) % p)), .val (.int .i64 (leg (((u) % p) * (inv ((v) % p)) % p))), .imm (.bool true)] (by kernel_rfl) (fun β => ?_) (fun β w9 hD => ?_)
  · refine Obs.cons (Ob.load (b7) 0 (il 16 (d16 (((u) % p) * (inv ((v) % p)) % p))) rfl rfl (by kernel_rfl) hr_b7 Tryd.underlying45 rfl (by rw [il_length]; exact infoS)) ?_
    refine Obs.cons (Ob.call 71 #[sn (((u) % p) * (inv ((v) % p)) % p)] rfl (fun w => by kernel_rfl) (fun w hg => Symbol_r (((u) % p) * (inv ((v) % p)) % p) (mod_S _) w (hGl.grown hg))) ?_
    refine Obs.cons (Ob.imm rfl (fun w => exec_neqI rfl (leg (((u) % p) * (inv ((v) % p)) % p)) (1) (by kernel_rfl) (by kernel_rfl) true (by rw [decide_eq_false hl]; rfl))) ?_
    exact Obs.nil
  replace hr_b0 := rangeAt_grown hr_b0 hD.gr
  replace hr_b1 := rangeAt_grown hr_b1 hD.gr
  replace hr_b3 := rangeAt_grown hr_b3 hD.gr
  replace hr_b4 := rangeAt_grown hr_b4 hD.gr
  replace hr_b5 := rangeAt_grown hr_b5 hD.gr
  replace hr_b6 := rangeAt_grown hr_b6 hD.gr
  replace hr_b7 := rangeAt_grown hr_b7 hD.gr
  replace ht_b2 := there_grown ht_b2 hD.gr
  replace ht_b4 := there_grown ht_b4 hD.gr
  replace ht_b5 := there_grown ht_b5 hD.gr
  replace ht_b6 := there_grown ht_b6 hD.gr
  replace ht_b7 := there_grown ht_b7 hD.gr
  replace hW := grown_trans hW hD.gr
  clear hD
  simp only [finAct, putAll, valsFrom, Plan.value, Act.put, List.setIfInBounds_toArray, List.set_cons_zero, List.set_cons_succ]
  replace hGl := hGl0.grown hW
  repeat ((fail_if_success (with_reducible show Code.wp _ (Code.region _ _ _) _ _ _)); go_step)
  refine wp_plain_fin [.val (bv (0)), .fin, .imm (.bool false)] (b2) 0 (fun _ => bl (0)) (by kernel_rfl) (fun β => ?_) (fun β w10 hD => ?_)
  · refine Obs.cons (Ob.load (b3) 0 (bl (0)) rfl rfl (by kernel_rfl) hr_b3 Tryd.underlying23 rfl (by rw [bl_length]; exact info32)) ?_
    refine Obs.cons (Ob.fin rfl (by rw [bl_length]; exact ht_b2) rfl (by kernel_rfl) (by kernel_rfl) (by rw [bl_length]; exact info32) (bl_one _)) ?_
    refine Obs.cons (Ob.imm rfl (fun w => by kernel_rfl)) ?_
    exact Obs.nil
  replace hr_b0 := rangeAt_grown hr_b0 hD.gr
  replace hr_b1 := rangeAt_grown hr_b1 hD.gr
  replace hr_b3 := rangeAt_grown hr_b3 hD.gr
  replace hr_b4 := rangeAt_grown hr_b4 hD.gr
  replace hr_b5 := rangeAt_grown hr_b5 hD.gr
  replace hr_b6 := rangeAt_grown hr_b6 hD.gr
  replace hr_b7 := rangeAt_grown hr_b7 hD.gr
  replace ht_b2 := there_grown ht_b2 hD.gr
  replace ht_b4 := there_grown ht_b4 hD.gr
  replace ht_b5 := there_grown ht_b5 hD.gr
  replace ht_b6 := there_grown ht_b6 hD.gr
  replace ht_b7 := there_grown ht_b7 hD.gr
  replace hW := grown_trans hW hD.gr
  clear hD
  simp only [finAct, putAll, valsFrom, Plan.value, Act.put, List.setIfInBounds_toArray, List.set_cons_zero, List.set_cons_succ]
  replace hGl := hGl0.grown hW
  have hs10 := World.rangeAt_setCells_same w10 (b2) 0 (bl (0)) (by rw [bl_length]; exact ht_b2)
  replace hW := grown_setCells hf_b2 (bl (0)) 0 hW
  generalize w10.setCells (b2) 0 (bl (0)) = w10s at *
  repeat go_step
  refine bodyPost_ret (v := .tuple #[bv (0), .bool false]) (result_cell_tmp Tryd.results36 _ _ (b2) _ (.bool false) ?hp ?hv hs10 Tryd.underlying23 rfl (by rw [bl_length]; exact info32)) ?hd ?_
  case hp => rfl
  case hv => rfl
  case hd => rfl
  exact ⟨rfl, hW⟩

set_option maxRecDepth 100000 in
set_option maxHeartbeats 4000000 in
theorem SqrtR_3 (u v : Nat) (hu : u < S256) (hv : v < S256) (h0 : ¬ u % p = 0) (h1 : ¬ v % p = 0) (hl : leg (((u) % p) * (inv ((v) % p)) % p) = 1) (hq : hp (((u) % p) * (inv ((v) % p)) % p) = 1) (w : World) (hGl0 : Gp w) : Calls Tryd.prog 36 #[bv u, bv v] w fun ex w' => ex = .returned (.tuple #[bv (rt (((u) % p) * (inv ((v) % p)) % p) (1)), .bool true]) ∧ Grown w w' := by
  have hW := Grown.refl w
  have hGl := hGl0
  go_enter Tryd.func36, Tryd.ntmps36
  repeat ((fail_if_success (with_reducible show Code.wp _ (Code.region _ _ _) _ _ _)); go_step)
  refine wp_plain [.box 23 (bl (u)), .box 23 (bl (v)), .new 23 32, .imm (.bool false)] (by kernel_rfl) (fun β => ?_) (fun β w1 hD => ?_)
  · refine Obs.cons (Ob.box rfl rfl (by kernel_rfl)) ?_
    refine Obs.cons (Ob.box rfl rfl (by kernel_rfl)) ?_
    refine Obs.cons (Ob.new _ rfl rfl zero32.1 (by simp [bl_length])) ?_
    refine Obs.cons (Ob.imm rfl (fun w => by kernel_rfl)) ?_
    exact Obs.nil
  obtain ⟨hf_b0, hr_b0⟩ := hD.bx 0 _ _ rfl
  replace hf_b0 := Nat.le_trans hW.2.2 hf_b0
  obtain ⟨hf_b1, hr_b1⟩ := hD.bx 1 _ _ rfl
  replace hf_b1 := Nat.le_trans hW.2.2 hf_b1
  obtain ⟨hf_b2, ht_b2⟩ := hD.nw 2 _ _ rfl
  replace hf_b2 := Nat.le_trans hW.2.2 hf_b2
  replace hW := grown_trans hW hD.gr
  clear hD
  simp only [finAct, putAll, valsFrom, Plan.value, Act.put, List.setIfInBounds_toArray, List.set_cons_zero, List.set_cons_succ]
  replace hGl := hGl0.grown hW
  generalize β 0 = b0 at *
  generalize β (0 + 1) = b1 at *
  generalize β (0 + 1 + 1) = b2 at *
  repeat ((fail_if_success (with_reducible show Code.wp _ (Code.region _ _ _) _ _ _)); go_step)
  refine wp_plain [.box 23 (bl (0))] (by kernel_rfl) (fun β => ?_) (fun β w2 hD => ?_)
  · refine Obs.cons (Ob.newz (bl (0)) rfl rfl zero32.1) ?_
    exact Obs.nil
  replace hr_b0 := rangeAt_grown hr_b0 hD.gr
  replace hr_b1 := rangeAt_grown hr_b1 hD.gr
  replace ht_b2 := there_grown ht_b2 hD.gr
  obtain ⟨hf_b3, hr_b3⟩ := hD.bx 0 _ _ rfl
  replace hf_b3 := Nat.le_trans hW.2.2 hf_b3
  replace hW := grown_trans hW hD.gr
  clear hD
  simp only [finAct, putAll, valsFrom, Plan.value, Act.put, List.setIfInBounds_toArray, List.set_cons_zero, List.set_cons_succ]
  replace hGl := hGl0.grown hW
  generalize β 0 = b3 at *
  repeat ((fail_if_success (with_reducible show Code.wp _ (Code.region _ _ _) _ _ _)); go_step)
  refine wp_plain [.val (bv (u)), .val (sn ((u) % p)), .new 45 16, .put 2 2 (fun _ => il 16 (d16 ((u) % p)))] (by kernel_rfl) (fun β => ?_) (fun β w3 hD => ?_)
  · refine Obs.cons (Ob.load (b0) 0 (bl (u)) rfl rfl (by kernel_rfl) hr_b0 Tryd.underlying23 rfl (by rw [bl_length]; exact info32)) ?_
    refine Obs.cons (Ob.call 62 #[bv (u)] rfl (fun w => by kernel_rfl) (fun w hg => From_r (u) hu w (hGl.grown hg))) ?_
    refine Obs.cons (Ob.new _ rfl rfl zeroS (by simp [il_length])) ?_
    refine Obs.cons (Ob.put 45 rfl rfl rfl (by kernel_rfl) (by kernel_rfl) (by rw [il_length]; exact infoS) (il_one _ _)) ?_
    exact Obs.nil
  replace hr_b0 := rangeAt_grown hr_b0 hD.gr
  replace hr_b1 := rangeAt_grown hr_b1 hD.gr
  replace hr_b3 := rangeAt_grown hr_b3 hD.gr
  replace ht_b2 := there_grown ht_b2 hD.gr
  obtain ⟨hf_b4, ht_b4⟩ := hD.nw 2 _ _ rfl
  have hr_b4 : w3.rangeAt (β 2) 0 (il 16 (d16 ((u) % p))) := hD.rg 3 2 2 (fun _ => il 16 (d16 ((u) % p))) rfl
  replace hf_b4 := Nat.le_trans hW.2.2 hf_b4
  replace hW := grown_trans hW hD.gr
  clear hD
  simp only [finAct, putAll, valsFrom, Plan.value, Act.put, List.setIfInBounds_toArray, List.set_cons_zero, List.set_cons_succ]
  replace hGl := hGl0.grown hW
  generalize β (0 + 1 + 1) = b4 at *
  repeat ((fail_if_success (with_reducible show Code.wp _ (Code.region _ _ _) _ _ _)); go_step)
  refine wp_plain [.val (bv (v)), .val (sn ((v) % p)), .new 45 16, .put 2 2 (fun _ => il 16 (d16 ((v) % p)))] (by kernel_rfl) (fun β => ?_) (fun β w4 hD => ?_)
  · refine Obs.cons (Ob.load (b1) 0 (bl (v)) rfl rfl (by kernel_rfl) hr_b1 Tryd.underlying23 rfl (by rw [bl_length]; exact info32)) ?_
    refine Obs.cons (Ob.call 62 #[bv (v)] rfl (fun w => by kernel_rfl) (fun w hg => From_r (v) hv w (hGl.grown hg))) ?_
    refine Obs.cons (Ob.new _ rfl rfl zeroS (by simp [il_length])) ?_
    refine Obs.cons (Ob.put 45 rfl rfl rfl (by kernel_rfl) (by kernel_rfl) (by rw [il_length]; exact infoS) (il_one _ _)) ?_
    exact Obs.nil
  replace hr_b0 := rangeAt_grown hr_b0 hD.gr
  replace hr_b1 := rangeAt_grown hr_b1 hD.gr
  replace hr_b3 := rangeAt_grown hr_b3 hD.gr
  replace hr_b4 := rangeAt_grown hr_b4 hD.gr
  replace ht_b2 := there_grown ht_b2 hD.gr
  replace ht_b4 := there_grown ht_b4 hD.gr
  obtain ⟨hf_b5, ht_b5⟩ := hD.nw 2 _ _ rfl
  have hr_b5 : w4.rangeAt (β 2) 0 (il 16 (d16 ((v) % p))) := hD.rg 3 2 2 (fun _ => il 16 (d16 ((v) % p))) rfl
  replace hf_b5 := Nat.le_trans hW.2.2 hf_b5
  replace hW := grown_trans hW hD.gr
  clear hD
  simp only [finAct, putAll, valsFrom, Plan.value, Act.put, List.setIfInBounds_toArray, List.set_cons_zero, List.set_cons_succ]
  replace hGl := hGl0.grown hW
  generalize β (0 + 1 + 1) = b5 at *
  repeat ((fail_if_success (with_reducible show Code.wp _ (Code.region _ _ _) _ _ _)); go_step)
  refine wp_plain [.val (sn ((u) % p)), .val (.bool false)] (by kernel_rfl) (fun β => ?_) (fun β w5 hD => ?_)
  · refine Obs.cons (Ob.load (b4) 0 (il 16 (d16 ((u) % p))) rfl rfl (by kernel_rfl) hr_b4 Tryd.underlying45 rfl (by rw [il_length]; exact infoS)) ?_
    refine Obs.cons (Ob.call 70 #[sn ((u) % p)] rfl (fun w => by kernel_rfl) (fun w hg => Zero_b ((u) % p) (mod_S _) false (decide_eq_false h0) w)) ?_
    exact Obs.nil
  replace hr_b0 := rangeAt_grown hr_b0 hD.gr
  replace hr_b1 := rangeAt_grown hr_b1 hD.gr
  replace hr_b3 := rangeAt_grown hr_b3 hD.gr
  replace hr_b4 := rangeAt_grown hr_b4 hD.gr
  replace hr_b5 := rangeAt_grown hr_b5 hD.gr
  replace ht_b2 := there_grown ht_b2 hD.gr
  replace ht_b4 := there_grown ht_b4 hD.gr
  replace ht_b5 := there_grown ht_b5 hD.gr
  replace hW := grown_trans hW hD.gr
  clear hD
  simp only [finAct, putAll, valsFrom, Plan.value, Act.put, List.setIfInBounds_toArray, List.set_cons_zero, List.set_cons_succ]
  replace hGl := hGl0.grown hW
  repeat ((fail_if_success (with_reducible show Code.wp _ (Code.region _ _ _) _ _ _)); go_step)
  refine wp_plain [.val (sn ((v) % p)), .val (.bool false)] (by kernel_rfl) (fun β => ?_) (fun β w6 hD => ?_)
  · refine Obs.cons (Ob.load (b5) 0 (il 16 (d16 ((v) % p))) rfl rfl (by kernel_rfl) hr_b5 Tryd.underlying45 rfl (by rw [il_length]; exact infoS)) ?_
    refine Obs.cons (Ob.call 70 #[sn ((v) % p)] rfl (fun w => by kernel_rfl) (fun w hg => Zero_b ((v) % p) (mod_S _) false (decide_eq_false h1) w)) ?_
    exact Obs.nil
  replace hr_b0 := rangeAt_grown hr_b0 hD.gr
  replace hr_b1 := rangeAt_grown hr_b1 hD.gr
  replace hr_b3 := rangeAt_grown hr_b3 hD.gr
  replace hr_b4 := rangeAt_grown hr_b4 hD.gr
  replace hr_b5 := rangeAt_grown hr_b5 hD.gr
  replace ht_b2 := there_grown ht_b2 hD.gr
  replace ht_b4 := there_grown ht_b4 hD.gr
  replace ht_b5 := there_grown ht_b5 hD.gr
  replace hW := grown_trans hW hD.gr
  clear hD
  simp only [finAct, putAll, valsFrom, Plan.value, Act.put, List.setIfInBounds_toArray, List.set_cons_zero, List.set_cons_succ]
  replace hGl := hGl0.grown hW
  repeat ((fail_if_success (with_reducible show Code.wp _ (Code.region _ _ _) _ _ _)); go_step)
  refine wp_plain [.val (sn ((v) % p)), .val (sn (inv ((v) % p))), .new 45 16, .put 2 2 (fun _ => il 16 (d16 (inv ((v) % p))))] (by kernel_rfl) (fun β => ?_) (fun β w7 hD => ?_)
  · refine Obs.cons (Ob.load (b5) 0 (il 16 (d16 ((v) % p))) rfl rfl (by kernel_rfl) hr_b5 Tryd.underlying45 rfl (by rw [il_length]; exact infoS)) ?_
    refine Obs.cons (Ob.call 69 #[sn ((v) % p)] rfl (fun w => by kernel_rfl) (fun w hg => Inverse_r ((v) % p) (mod_S _) w (hGl.grown hg))) ?_
    refine Obs.cons (Ob.new _ rfl rfl zeroS (by simp [il_length])) ?_
    refine Obs.cons (Ob.put 45 rfl rfl rfl (by kernel_rfl) (by kernel_rfl) (by rw [il_length]; exact infoS) (il_one _ _)) ?_
    exact Obs.nil
  replace hr_b0 := rangeAt_grown hr_b0 hD.gr
  replace hr_b1 := rangeAt_grown hr_b1 hD.gr
  replace hr_b3 := rangeAt_grown hr_b3 hD.gr
  replace hr_b4 := rangeAt_grown hr_b4 hD.gr
  replace hr_b5 := rangeAt_grown hr_b5 hD.gr
  replace ht_b2 := there_grown ht_b2 hD.gr
  replace ht_b4 := there_grown ht_b4 hD.gr
  replace ht_b5 := there_grown ht_b5 hD.gr
  obtain ⟨hf_b6, ht_b6⟩ := hD.nw 2 _ _ rfl
  have hr_b6 : w7.rangeAt (β 2) 0 (il 16 (d16 (inv ((v) % p)))) := hD.rg 3 2 2 (fun _ => il 16 (d16 (inv ((v) % p)))) rfl
  replace hf_b6 := Nat.le_trans hW.2.2 hf_b6
  replace hW := grown_trans hW hD.gr
  clear hD
  simp only [finAct, putAll, valsFrom, Plan.value, Act.put, List.setIfInBounds_toArray, List.set_cons_zero, List.set_cons_succ]
  replace hGl := hGl0.grown hW
  generalize β (0 + 1 + 1) = b6 at *
  repeat ((fail_if_success (with_reducible show Code.wp _ (Code.region _ _ _) _ _ _)); go_step)
  refine wp_plain [.val (sn ((u) % p)), .val (sn (inv ((v) % p))), .val (sn (((u) % p) * (inv ((v) % p)) % p)), .new 45 16, .put 3 3 (fun _ => il 16 (d16 (((u) % p) * (inv ((v) % p)) % p)))] (by kernel_rfl) (fun β => ?_) (fun β w8 hD => ?_)
  · refine Obs.cons (Ob.load (b4) 0 (il 16 (d16 ((u) % p))) rfl rfl (by kernel_rfl) hr_b4 Tryd.underlying45 rfl (by rw [il_length]; exact infoS)) ?_
    refine Obs.cons (Ob.load (b6) 0 (il 16 (d16 (inv ((v) % p)))) rfl rfl (by kernel_rfl) hr_b6 Tryd.underlying45 rfl (by rw [il_length]; exact infoS)) ?_
    refine Obs.cons (Ob.call 63 #[sn ((u) % p), sn (inv ((v) % p))] rfl (fun w => by kernel_rfl) (fun w hg => Times_r ((u) % p) (inv ((v) % p)) (mod_S _) (inv_S _) w (hGl.grown hg))) ?_
    refine Obs.cons (Ob.new _ rfl rfl zeroS (by simp [il_length])) ?_
    refine Obs.cons (Ob.put 45 rfl rfl rfl (by kernel_rfl) (by kernel_rfl) (by rw [il_length]; exact infoS) (il_one _ _)) ?_
    exact Obs.nil
  replace hr_b0 := rangeAt_grown hr_b0 hD.gr
  replace hr_b1 := rangeAt_grown hr_b1 hD.gr
  replace hr_b3 := rangeAt_grown hr_b3 hD.gr
  replace hr_b4 := rangeAt_grown hr_b4 hD.gr
  replace hr_b5 := rangeAt_grown hr_b5 hD.gr
  replace hr_b6 := rangeAt_grown hr_b6 hD.gr
  replace ht_b2 := there_grown ht_b2 hD.gr
  replace ht_b4 := there_grown ht_b4 hD.gr
  replace ht_b5 := there_grown ht_b5 hD.gr
  replace ht_b6 := there_grown ht_b6 hD.gr
  obtain ⟨hf_b7, ht_b7⟩ := hD.nw 3 _ _ rfl
  have hr_b7 : w8.rangeAt (β 3) 0 (il 16 (d16 (((u) % p) * (inv ((v) % p)) % p))) := hD.rg 4 3 3 (fun _ => il 16 (d16 (((u) % p) * (inv ((v) % p)) % p))) rfl
  replace hf_b7 := Nat.le_trans hW.2.2 hf_b7
  replace hW := grown_trans hW hD.gr
  clear hD
  simp only [finAct, putAll, valsFrom, Plan.value, Act.put, List.setIfInBounds_toArray, List.set_cons_zero, List.set_cons_succ]
  replace hGl := hGl0.grown hW
  generalize β (0 + 1 + 1 + 1) = b7 at *
  repeat ((fail_if_success (with_reducible show Code.wp _ (Code.region _ _ _) _ _ _)); go_step)
  refine wp_plain [.val (sn (((u) % p) * (inv ((v) % p)) % p)), .val (.int .i64 (leg (((u) % p) * (inv ((v) % p)) % p))), .imm (.bool false)] (by kernel_rfl) (fun β => ?_) (fun β w9 hD => ?_)
  · refine Obs.cons (Ob.load (b7) 0 (il 16 (d16 (((u) % p) * (inv ((v) % p)) % p))) rfl rfl (by kernel_rfl) hr_b7 Tryd.underlying45 rfl (by rw [il_length]; exact infoS)) ?_
    refine Obs.cons (Ob.call 71 #[sn (((u) % p) * (inv ((v) % p)) % p)] rfl (fun w => by kernel_rfl) (fun w hg => Symbol_r (((u) % p) * (inv ((v) % p)) % p) (mod_S _) w (hGl.grown hg))) ?_
    refine Obs.cons (Ob.imm rfl (fun w => exec_neqI rfl (leg (((u) % p) * (inv ((v) % p)) % p)) (1) (by kernel_rfl) (by kernel_rfl) false (by rw [decide_eq_true hl]; rfl))) ?_
    exact Obs.nil
  replace hr_b0 := rangeAt_grown hr_b0 hD.gr
  replace hr_b1 := rangeAt_grown hr_b1 hD.gr
  replace hr_b3 := rangeAt_grown hr_b3 hD.gr
  replace hr_b4 := rangeAt_grown hr_b4 hD.gr
  replace hr_b5 := rangeAt_grown hr_b5 hD.gr
  replace hr_b6 := rangeAt_grown hr_b6 hD.gr
  replace hr_b7 := rangeAt_grown hr_b7 hD.gr
  replace ht_b2 := there_grown ht_b2 hD.gr
  replace ht_b4 := there_grown ht_b4 hD.gr
  replace ht_b5 := there_grown ht_b5 hD.gr
  replace ht_b6 := there_grown ht_b6 hD.gr
  replace ht_b7 := there_grown ht_b7 hD.gr
  replace hW := grown_trans hW hD.gr
  clear hD
  simp only [finAct, putAll, valsFrom, Plan.value, Act.put, List.setIfInBounds_toArray, List.set_cons_zero, List.set_cons_succ]
  replace hGl := hGl0.grown hW
  repeat ((fail_if_success (with_reducible show Code.wp _ (Code.region _ _ _) _ _ _)); go_step)
  refine wp_plain [.val (sn (((u) % p) * (inv ((v) % p)) % p)), .val (sn (rt (((u) % p) * (inv ((v) % p)) % p) (1))), .new 45 16, .put 2 2 (fun _ => il 16 (d16 (rt (((u) % p) * (inv ((v) % p)) % p) (1))))] (by kernel_rfl) (fun β => ?_) (fun β w10 hD => ?_)
  · refine Obs.cons (Ob.load (b7) 0 (il 16 (d16 (((u) % p) * (inv ((v) % p)) % p))) rfl rfl (by kernel_rfl) hr_b7 Tryd.underlying45 rfl (by rw [il_length]; exact infoS)) ?_
    refine Obs.cons (Ob.call 72 #[sn (((u) % p) * (inv ((v) % p)) % p)] rfl (fun w => by kernel_rfl) (fun w hg => Root_r (((u) % p) * (inv ((v) % p)) % p) (Nat.mod_lt _ p_pos) hq w (hGl.grown hg))) ?_
    refine Obs.cons (Ob.new _ rfl rfl zeroS (by simp [il_length])) ?_
    refine Obs.cons (Ob.put 45 rfl rfl rfl (by kernel_rfl) (by kernel_rfl) (by rw [il_length]; exact infoS) (il_one _ _)) ?_
    exact Obs.nil
  replace hr_b0 := rangeAt_grown hr_b0 hD.gr
  replace hr_b1 := rangeAt_grown hr_b1 hD.gr
  replace hr_b3 := rangeAt_grown hr_b3 hD.gr
  replace hr_b4 := rangeAt_grown hr_b4 hD.gr
  replace hr_b5 := rangeAt_grown hr_b5 hD.gr
  replace hr_b6 := rangeAt_grown hr_b6 hD.gr
  replace hr_b7 := rangeAt_grown hr_b7 hD.gr
  replace ht_b2 := there_grown ht_b2 hD.gr
  replace ht_b4 := there_grown ht_b4 hD.gr
  replace ht_b5 := there_grown ht_b5 hD.gr
  replace ht_b6 := there_grown ht_b6 hD.gr
  replace ht_b7 := there_grown ht_b7 hD.gr
  obtain ⟨hf_b8, ht_b8⟩ := hD.nw 2 _ _ rfl
  have hr_b8 : w10.rangeAt (β 2) 0 (il 16 (d16 (rt (((u) % p) * (inv ((v) % p)) % p) (1)))) := hD.rg 3 2 2 (fun _ => il 16 (d16 (rt (((u) % p) * (inv ((v) % p)) % p) (1)))) rfl
  replace hf_b8 := Nat.le_trans hW.2.2 hf_b8
  replace hW := grown_trans hW hD.gr
  clear hD
  simp only [finAct, putAll, valsFrom, Plan.value, Act.put, List.setIfInBounds_toArray, List.set_cons_zero, List.set_cons_succ]
  replace hGl := hGl0.grown hW
  generalize β (0 + 1 + 1) = b8 at *
  repeat ((fail_if_success (with_reducible show Code.wp _ (Code.region _ _ _) _ _ _)); go_step)
  refine wp_plain_fin [.val (sn (rt (((u) % p) * (inv ((v) % p)) % p) (1))), .val (bv (rt (((u) % p) * (inv ((v) % p)) % p) (1))), .fin, .imm (.bool true)] (b2) 0 (fun _ => bl (rt (((u) % p) * (inv ((v) % p)) % p) (1))) (by kernel_rfl) (fun β => ?_) (fun β w11 hD => ?_)
  · refine Obs.cons (Ob.load (b8) 0 (il 16 (d16 (rt (((u) % p) * (inv ((v) % p)) % p) (1)))) rfl rfl (by kernel_rfl) hr_b8 Tryd.underlying45 rfl (by rw [il_length]; exact infoS)) ?_
    refine Obs.cons (Ob.call 38 #[sn (rt (((u) % p) * (inv ((v) % p)) % p) (1))] rfl (fun w => by kernel_rfl) (fun w hg => Bytes_r (rt (((u) % p) * (inv ((v) % p)) % p) (1)) w)) ?_
    refine Obs.cons (Ob.fin rfl (by rw [bl_length]; exact ht_b2) rfl (by kernel_rfl) (by kernel_rfl) (by rw [bl_length]; exact info32) (bl_one _)) ?_
    refine Obs.cons (Ob.imm rfl (fun w => by kernel_rfl)) ?_
    exact Obs.nil
  replace hr_b0 := rangeAt_grown hr_b0 hD.gr
  replace hr_b1 := rangeAt_grown hr_b1 hD.gr
  replace hr_b3 := rangeAt_grown hr_b3 hD.gr
  replace hr_b4 := rangeAt_grown hr_b4 hD.gr
  replace hr_b5 := rangeAt_grown hr_b5 hD.gr
  replace hr_b6 := rangeAt_grown hr_b6 hD.gr
  replace hr_b7 := rangeAt_grown hr_b7 hD.gr
  replace hr_b8 := rangeAt_grown hr_b8 hD.gr
  replace ht_b2 := there_grown ht_b2 hD.gr
  replace ht_b4 := there_grown ht_b4 hD.gr
  replace ht_b5 := there_grown ht_b5 hD.gr
  replace ht_b6 := there_grown ht_b6 hD.gr
  replace ht_b7 := there_grown ht_b7 hD.gr
  replace ht_b8 := there_grown ht_b8 hD.gr
  replace hW := grown_trans hW hD.gr
  clear hD
  simp only [finAct, putAll, valsFrom, Plan.value, Act.put, List.setIfInBounds_toArray, List.set_cons_zero, List.set_cons_succ]
  replace hGl := hGl0.grown hW
  have hs11 := World.rangeAt_setCells_same w11 (b2) 0 (bl (rt (((u) % p) * (inv ((v) % p)) % p) (1))) (by rw [bl_length]; exact ht_b2)
  replace hW := grown_setCells hf_b2 (bl (rt (((u) % p) * (inv ((v) % p)) % p) (1))) 0 hW
  generalize w11.setCells (b2) 0 (bl (rt (((u) % p) * (inv ((v) % p)) % p) (1))) = w11s at *
  repeat go_step
  refine bodyPost_ret (v := .tuple #[bv (rt (((u) % p) * (inv ((v) % p)) % p) (1)), .bool true]) (result_cell_tmp Tryd.results36 _ _ (b2) _ (.bool true) ?hp ?hv hs11 Tryd.underlying23 rfl (by rw [bl_length]; exact info32)) ?hd ?_
  case hp => rfl
  case hv => rfl
  case hd => rfl
  exact ⟨rfl, hW⟩

theorem quot_eq (u v : Nat) : (u % p) * (inv (v % p)) % p = u * inv v % p := by rw [inv_mod, Nat.mod_mul_mod]
theorem leg_one {q : Nat} (h : leg q = 1) : hp q = 1 := by
  unfold leg at h
  by_cases h0 : hp q = 0
  · rw [if_pos h0] at h; cases h
  · rw [if_neg h0] at h
    by_cases h1 : hp q = 1
    · exact h1
    · rw [if_neg h1] at h; cases h
theorem SqrtR_yes (u v : Nat) (hu : u < S256) (hv : v < S256) (h : rok u v) (w : World) (hGl0 : Gp w) : Calls Tryd.prog 36 #[bv u, bv v] w fun ex w' => ex = .returned (.tuple #[bv (rt u v), .bool true]) ∧ Grown w w' := by
  by_cases h0 : u % p = 0
  · rw [rt_null h0]; exact SqrtR_0 u v hu hv h0 w hGl0
  · by_cases h1 : v % p = 0
    · exact absurd h (rok_no h0 h1)
    · have hl : leg ((u % p) * (inv (v % p)) % p) = 1 := by rw [quot_eq]; exact (leg_quot h0 h1).2 h
      have hq := leg_one hl
      have hR : RootOf ((u % p) * (inv (v % p)) % p) 1 (rt ((u % p) * (inv (v % p)) % p) 1) := rt_root2 (.inr (by rw [Nat.mul_one]; exact hq))
      have hR2 : RootOf u v (rt ((u % p) * (inv (v % p)) % p) 1) := root_ratio h0 h1 (by rw [← quot_eq]; exact hR)
      rw [rt_eq hR2]
      exact SqrtR_3 u v hu hv h0 h1 hl hq w hGl0
theorem SqrtR_no (u v : Nat) (hu : u < S256) (hv : v < S256) (h : ¬ rok u v) (w : World) (hGl0 : Gp w) : Calls Tryd.prog 36 #[bv u, bv v] w fun ex w' => ex = .returned (.tuple #[bv 0, .bool false]) ∧ Grown w w' := by
  have h0 : ¬ u % p = 0 := fun e => h (.inl e)
  by_cases h1 : v % p = 0
  · exact SqrtR_1 u v hu hv h0 h1 w hGl0
  · exact SqrtR_2 u v hu hv h0 h1 (by rw [quot_eq]; exact fun e => h ((leg_quot h0 h1).1 e)) w hGl0
set_option maxRecDepth 100000 in
set_option maxHeartbeats 4000000 in
theorem LegendreR_raw (a : Nat) (ha : a < S256) (w : World) (hGl0 : Gp w) : Calls Tryd.prog 37 #[bv a] w fun e w' => e = .returned (.int .i64 (leg (a % p))) ∧ Grown w w' := by
  have hW := Grown.refl w
  have hGl := hGl0
  go_enter Tryd.func37, Tryd.ntmps37
  repeat ((fail_if_success (with_reducible show Code.wp _ (Code.region _ _ _) _ _ _)); go_step)
  refine wp_plain [.box 23 (bl (a)), .imm (.int .i64 (0))] (by kernel_rfl) (fun β => ?_) (fun β w1 hD => ?_)
  · refine Obs.cons (Ob.box rfl rfl (by kernel_rfl)) ?_
    refine Obs.cons (Ob.imm rfl (fun w => by kernel_rfl)) ?_
    exact Obs.nil
  obtain ⟨hf_b0, hr_b0⟩ := hD.bx 0 _ _ rfl
  replace hf_b0 := Nat.le_trans hW.2.2 hf_b0
  replace hW := grown_trans hW hD.gr
  clear hD
  simp only [finAct, putAll, valsFrom, Plan.value, Act.put, List.setIfInBounds_toArray, List.set_cons_zero, List.set_cons_succ]
  replace hGl := hGl0.grown hW
  generalize β 0 = b0 at *
  repeat ((fail_if_success (with_reducible show Code.wp _ (Code.region _ _ _) _ _ _)); go_step)
  refine wp_plain [.val (bv (a)), .val (sn ((a) % p)), .new 45 16, .put 2 2 (fun _ => il 16 (d16 ((a) % p)))] (by kernel_rfl) (fun β => ?_) (fun β w2 hD => ?_)
  · refine Obs.cons (Ob.load (b0) 0 (bl (a)) rfl rfl (by kernel_rfl) hr_b0 Tryd.underlying23 rfl (by rw [bl_length]; exact info32)) ?_
    refine Obs.cons (Ob.call 62 #[bv (a)] rfl (fun w => by kernel_rfl) (fun w hg => From_r (a) ha w (hGl.grown hg))) ?_
    refine Obs.cons (Ob.new _ rfl rfl zeroS (by simp [il_length])) ?_
    refine Obs.cons (Ob.put 45 rfl rfl rfl (by kernel_rfl) (by kernel_rfl) (by rw [il_length]; exact infoS) (il_one _ _)) ?_
    exact Obs.nil
  replace hr_b0 := rangeAt_grown hr_b0 hD.gr
  obtain ⟨hf_b1, ht_b1⟩ := hD.nw 2 _ _ rfl
  have hr_b1 : w2.rangeAt (β 2) 0 (il 16 (d16 ((a) % p))) := hD.rg 3 2 2 (fun _ => il 16 (d16 ((a) % p))) rfl
  replace hf_b1 := Nat.le_trans hW.2.2 hf_b1
  replace hW := grown_trans hW hD.gr
  clear hD
  simp only [finAct, putAll, valsFrom, Plan.value, Act.put, List.setIfInBounds_toArray, List.set_cons_zero, List.set_cons_succ]
  replace hGl := hGl0.grown hW
  generalize β (0 + 1 + 1) = b1 at *
  repeat ((fail_if_success (with_reducible show Code.wp _ (Code.region _ _ _) _ _ _)); go_step)
  refine wp_plain [.val (sn ((a) % p)), .val (.int .i64 (leg ((a) % p))), .imm (.int .i64 (leg ((a) % p)))] (by kernel_rfl) (fun β => ?_) (fun β w3 hD => ?_)
  · refine Obs.cons (Ob.load (b1) 0 (il 16 (d16 ((a) % p))) rfl rfl (by kernel_rfl) hr_b1 Tryd.underlying45 rfl (by rw [il_length]; exact infoS)) ?_
    refine Obs.cons (Ob.call 71 #[sn ((a) % p)] rfl (fun w => by kernel_rfl) (fun w hg => Symbol_r ((a) % p) (mod_S _) w (hGl.grown hg))) ?_
    refine Obs.cons (Ob.imm rfl (fun w => by kernel_rfl)) ?_
    exact Obs.nil
  replace hr_b0 := rangeAt_grown hr_b0 hD.gr
  replace hr_b1 := rangeAt_grown hr_b1 hD.gr
  replace ht_b1 := there_grown ht_b1 hD.gr
  replace hW := grown_trans hW hD.gr
  clear hD
  simp only [finAct, putAll, valsFrom, Plan.value, Act.put, List.setIfInBounds_toArray, List.set_cons_zero, List.set_cons_succ]
  replace hGl := hGl0.grown hW
  repeat go_step
  go_ret
  exact ⟨rfl, hW⟩

theorem LegendreR (a : Nat) (ha : a < S256) (w : World) (hGl0 : Gp w) : Calls Tryd.prog 37 #[bv a] w fun e w' => e = .returned (.int .i64 (leg a)) ∧ Grown w w' := by
  have := LegendreR_raw a ha w hGl0
  rw [leg_mod] at this
  exact this
end Go.Proofs.YtkegcilcapnpdaaDoor
