import Derived.Test.YtoimglbjepppmaaDoorZQv
namespace Go.Proofs.YtoimglbjepppmaaDoor
open Go.RowKit Go.Shelf FieldNum

theorem fieldsQ : (Tryd.prog.fieldsOf 39).toList = [{ name := "X", type := 23, offset := 0, embedded := false, tag := "", pkgPath := "", byteOffset := 0 }, { name := "Y", type := 23, offset := 32, embedded := false, tag := "", pkgPath := "", byteOffset := 32 }] := by kernel_rfl
set_option maxRecDepth 100000 in
theorem part_XQ (x y : Nat) (w : World) : (part 23 (pcs x y).toArray 0).run Tryd.prog w = .ok (bv x) w := by kernel_rfl
set_option maxRecDepth 100000 in
theorem part_YQ (x y : Nat) (w : World) : (part 23 (pcs x y).toArray 32).run Tryd.prog w = .ok (bv y) w := by kernel_rfl

theorem equalQ (d : Nat) (a b c e : Nat) (ha : a < M) (hb : b < M) (hc : c < M) (he : e < M) (w : World) : (Op.equalIn (d + 3) 39 (pv a b) (pv c e)).run Tryd.prog w = .ok (decide (a = c ∧ b = e)) w := by
  unfold pv
  rw [run_equalIn_struct w (d + 2) 39 _ _ (by kernel_rfl) (by kernel_rfl), fieldsQ]
  have h1 := equal32 d a c ha hc w
  have h2 := equal32 d b e hb he w
  simp only [Op.eqFields, Sem.run_bind, Sem.run_ite, part_XQ, part_YQ, Result.andThen_ok, h1, h2]
  by_cases e1 : a = c <;> by_cases e2 : b = e <;> simp [e1, e2]

theorem exec_neqQ {o : Oper} {ρ : Operand → Value} {x y : Operand} {t : TypeId} (ho : o.op = .binOp .neq 39 x y t) (a b c e : Nat) (hx : ρ x = pv a b) (hy : ρ y = pv c e) (ha : a < M) (hb : b < M) (hc : c < M) (he : e < M)
    (r : Bool) (hr : (!decide (a = c ∧ b = e)) = r) (w : World) : (execOp ρ o).run Tryd.prog w = .ok (.value (.bool r)) w := by
  subst hr
  have hq := equalQ 9997 a b c e ha hb hc he w
  unfold pv at *
  unfold execOp
  simp only [ho, hx, hy, Sem.run_bind, run_eqGuard_agg (P := Tryd.prog) (w := w) .neq 39 x y _ _ Tryd.eqGuardType39, run_neq_struct, hq, Result.andThen_ok, Sem.run_pure]
theorem exec_eqlQ {o : Oper} {ρ : Operand → Value} {x y : Operand} {t : TypeId} (ho : o.op = .binOp .eql 39 x y t) (a b c e : Nat) (hx : ρ x = pv a b) (hy : ρ y = pv c e) (ha : a < M) (hb : b < M) (hc : c < M) (he : e < M)
    (r : Bool) (hr : decide (a = c ∧ b = e) = r) (w : World) : (execOp ρ o).run Tryd.prog w = .ok (.value (.bool r)) w := by
  subst hr
  have hq := equalQ 9997 a b c e ha hb hc he w
  unfold pv at *
  unfold execOp
  simp only [ho, hx, hy, Sem.run_bind, run_eqGuard_agg (P := Tryd.prog) (w := w) .eql 39 x y _ _ Tryd.eqGuardType39, run_eql_struct, hq, Result.andThen_ok, Sem.run_pure]

theorem ne_of_freshC {w : World} {b c x y z : Nat} (h : w.rangeAt b 0 (ccs x y z)) (hf : w.heap.size ≤ c) : b ≠ c := by
  have : b < w.heap.size := block_lt_of_cell (cell_r (rangeAt_left h) (j := 0) (by decide))
  omega
/-- the place so far -/
structure ZX (w0 : World) (g b N : Nat) (wr : World) : Prop where
  rg : wr.rangeAt g 0 (ccs (N % H) (N / H % H) (N / H / H))
  th : wr.there g 0 51
  rd : wr.rangeAt b 0 (rl (d15 dd))
  nd : b ≠ g
  fg : w0.heap.size ≤ g
  gw : Grown w0 wr
theorem ZX.grown {w0 wr w' : World} {g b N : Nat} (s : ZX w0 g b N wr) (hg : Grown wr w') : ZX w0 g b N w' :=
  ⟨rangeAt_grown s.rg hg, there_grown s.th hg, rangeAt_grown s.rd hg, s.nd, s.fg, grown_trans s.gw hg⟩
theorem ZX.store {w0 wr : World} {g b N : Nat} (s : ZX w0 g b N wr) (Q : Nat) : ZX w0 g b Q (wr.setCells g 0 (ccs (Q % H) (Q / H % H) (Q / H / H))) :=
  ⟨World.rangeAt_setCells_same _ _ _ _ (by rw [ccs_length]; exact s.th), World.there_setCells s.th _ _ _, World.rangeAt_setCells_apart s.rd _ _ _ (.inl s.nd), s.nd, s.fg, grown_setCells s.fg _ _ s.gw⟩
/-- so many doublings of the program's place -/
def it (x y : Nat) : Nat → Nat × Nat × Nat
  | 0 => (x, y, 1)
  | k + 1 => (dbX (it x y k).1 (it x y k).2.1 (it x y k).2.2, dbY (it x y k).1 (it x y k).2.1, dbZ (it x y k).1 (it x y k).2.1 (it x y k).2.2)
/-- the reference's place after so many -/
def At (x y k N : Nat) : Prop := N / H / H < H ∧ Tri (it x y k).1 (it x y k).2.1 (it x y k).2.2 (N % H) (N / H % H) (N / H / H)
theorem At.step {x y k N Q : Nat} (h : At x y k N) (hq : Q / H / H < H) (hs : SumR (N % H) (N / H % H) (N / H / H) (N % H) (N / H % H) (N / H / H) dd Q) : At x y (k + 1) Q := ⟨hq, Tri_step h.2 hs.1 hs.2.1 hs.2.2⟩
theorem At.start {x y : Nat} (h : isP x y) : At x y 0 (x + H * (y + H * 1)) := by
  refine ⟨pack_lt (lt_H h.1) (lt_H h.2.1) (by decide), ?_⟩
  rw [pack_0 (lt_H h.1), pack_2 (lt_H h.1) (lt_H h.2.1), pack_3 (lt_H h.1) (lt_H h.2.1)]
  exact Tri_start h.2.2
def smB (x y : Nat) : Bool := decide ((it x y 3).1 = 0 ∧ (it x y 3).2.1 = (it x y 3).2.2)
theorem At.fin {x y N : Nat} (h : At x y 3 N) : decide ((N % H) * inv (N / H / H) % p = 0 ∧ (N / H % H) * inv (N / H / H) % p = 1) = smB x y := Tri_end h.2 (dbX_p _ _ _) (dbY_p _ _) (dbZ_p _ _ _)

set_option maxRecDepth 100000 in
set_option maxHeartbeats 2000000 in
theorem SmallR_0 (x y : Nat) (hx : x < M) (hy : y < M) (ho : ¬ isP x y) (w : World) (hGl0 : GR w) :
    Calls Tryd.prog 45 #[pv x y] w fun ex w' => ex = .returned (.tuple #[.bool false, .int .i64 43]) ∧ Grown w w' := by
  have hW := Grown.refl w
  have hGl := hGl0
  go_enter Tryd.func45, Tryd.ntmps45
  repeat ((fail_if_success (with_reducible show Code.wp _ (Code.region _ _ _) _ _ _)); go_step)
  refine wp_plain [.box 39 (pcs (x) (y)), .imm (.bool false), .imm (.int .i64 (0))] (by kernel_rfl) (fun β => ?_) (fun β w1 hD => ?_)
  · refine Obs.cons (Ob.box rfl rfl (by kernel_rfl)) ?_
    refine Obs.cons (Ob.imm rfl (fun w => by kernel_rfl)) ?_
    refine Obs.cons (Ob.imm rfl (fun w => by kernel_rfl)) ?_
    exact Obs.nil
  obtain ⟨hf_b0, hr_b0⟩ := hD.bx 0 _ _ rfl
  replace hf_b0 := Nat.le_trans hW.2.2 hf_b0
  replace hW := grown_trans hW hD.gr
  clear hD
  simp only [finAct, putAll, valsFrom, Plan.value, Act.put, List.setIfInBounds_toArray, List.set_cons_zero, List.set_cons_succ]
  replace hGl := hGl0.grown hW
  generalize β 0 = b0 at *
  have hr_b0x : w1.rangeAt b0 0 (bl (x)) := rangeAt_left hr_b0
  have hr_b0y : w1.rangeAt b0 32 (bl (y)) := rangeAt_right 32 (bl_length _) hr_b0
  repeat ((fail_if_success (with_reducible show Code.wp _ (Code.region _ _ _) _ _ _)); go_step)
  refine wp_plain [.val (pv (x) (y)), .val (.bool false), .imm (.bool true)] (by kernel_rfl) (fun β => ?_) (fun β w2 hD => ?_)
  · refine Obs.cons (Ob.load (b0) 0 (pcs (x) (y)) rfl rfl (by kernel_rfl) hr_b0 Tryd.underlying39 rfl (by rw [pcs_length]; exact infoQ)) ?_
    refine Obs.cons (Ob.call 38 #[pv (x) (y)] rfl (fun w => by kernel_rfl) (fun w hg => OnR_is (x) (y) hx hy false (decide_eq_false ho) w (hGl.grown hg))) ?_
    refine Obs.cons (Ob.imm rfl (fun w => by kernel_rfl)) ?_
    exact Obs.nil
  replace hr_b0 := rangeAt_grown hr_b0 hD.gr
  replace hr_b0x := rangeAt_grown hr_b0x hD.gr
  replace hr_b0y := rangeAt_grown hr_b0y hD.gr
  replace hW := grown_trans hW hD.gr
  clear hD
  simp only [finAct, putAll, valsFrom, Plan.value, Act.put, List.setIfInBounds_toArray, List.set_cons_zero, List.set_cons_succ]
  replace hGl := hGl0.grown hW
  repeat ((fail_if_success (with_reducible show Code.wp _ (Code.region _ _ _) _ _ _)); go_step)
  refine wp_plain [.imm (.bool false), .imm (.int .i64 (43))] (by kernel_rfl) (fun β => ?_) (fun β w3 hD => ?_)
  · refine Obs.cons (Ob.imm rfl (fun w => by kernel_rfl)) ?_
    refine Obs.cons (Ob.imm rfl (fun w => by kernel_rfl)) ?_
    exact Obs.nil
  replace hr_b0 := rangeAt_grown hr_b0 hD.gr
  replace hr_b0x := rangeAt_grown hr_b0x hD.gr
  replace hr_b0y := rangeAt_grown hr_b0y hD.gr
  replace hW := grown_trans hW hD.gr
  clear hD
  simp only [finAct, putAll, valsFrom, Plan.value, Act.put, List.setIfInBounds_toArray, List.set_cons_zero, List.set_cons_succ]
  replace hGl := hGl0.grown hW
  repeat go_step
  refine bodyPost_ret (v := .tuple #[.bool false, .int .i64 (43)]) (result_tmp2 Tryd.results45 _ _ (.bool false) (.int .i64 (43)) ?hp ?hv) ?hd ?_
  case hp => rfl
  case hv => rfl
  case hd => rfl
  exact ⟨rfl, hW⟩

set_option maxRecDepth 100000 in
set_option maxHeartbeats 2000000 in
theorem SmallR_1 (x y : Nat) (hx : x < M) (hy : y < M) (ho : isP x y) (w : World) (hGl0 : GR w) :
    Calls Tryd.prog 45 #[pv x y] w fun ex w' => ex = .returned (.tuple #[.bool (smB x y), .int .i64 0]) ∧ Grown w w' := by
  have hW := Grown.refl w
  have hGl := hGl0
  go_enter Tryd.func45, Tryd.ntmps45
  repeat ((fail_if_success (with_reducible show Code.wp _ (Code.region _ _ _) _ _ _)); go_step)
  refine wp_plain [.box 39 (pcs (x) (y)), .imm (.bool false), .imm (.int .i64 (0))] (by kernel_rfl) (fun β => ?_) (fun β w1 hD => ?_)
  · refine Obs.cons (Ob.box rfl rfl (by kernel_rfl)) ?_
    refine Obs.cons (Ob.imm rfl (fun w => by kernel_rfl)) ?_
    refine Obs.cons (Ob.imm rfl (fun w => by kernel_rfl)) ?_
    exact Obs.nil
  obtain ⟨hf_b0, hr_b0⟩ := hD.bx 0 _ _ rfl
  replace hf_b0 := Nat.le_trans hW.2.2 hf_b0
  replace hW := grown_trans hW hD.gr
  clear hD
  simp only [finAct, putAll, valsFrom, Plan.value, Act.put, List.setIfInBounds_toArray, List.set_cons_zero, List.set_cons_succ]
  replace hGl := hGl0.grown hW
  generalize β 0 = b0 at *
  have hr_b0x : w1.rangeAt b0 0 (bl (x)) := rangeAt_left hr_b0
  have hr_b0y : w1.rangeAt b0 32 (bl (y)) := rangeAt_right 32 (bl_length _) hr_b0
  repeat ((fail_if_success (with_reducible show Code.wp _ (Code.region _ _ _) _ _ _)); go_step)
  refine wp_plain [.val (pv (x) (y)), .val (.bool true), .imm (.bool false)] (by kernel_rfl) (fun β => ?_) (fun β w2 hD => ?_)
  · refine Obs.cons (Ob.load (b0) 0 (pcs (x) (y)) rfl rfl (by kernel_rfl) hr_b0 Tryd.underlying39 rfl (by rw [pcs_length]; exact infoQ)) ?_
    refine Obs.cons (Ob.call 38 #[pv (x) (y)] rfl (fun w => by kernel_rfl) (fun w hg => OnR_is (x) (y) hx hy true (decide_eq_true ho) w (hGl.grown hg))) ?_
    refine Obs.cons (Ob.imm rfl (fun w => by kernel_rfl)) ?_
    exact Obs.nil
  replace hr_b0 := rangeAt_grown hr_b0 hD.gr
  replace hr_b0x := rangeAt_grown hr_b0x hD.gr
  replace hr_b0y := rangeAt_grown hr_b0y hD.gr
  replace hW := grown_trans hW hD.gr
  clear hD
  simp only [finAct, putAll, valsFrom, Plan.value, Act.put, List.setIfInBounds_toArray, List.set_cons_zero, List.set_cons_succ]
  replace hGl := hGl0.grown hW
  repeat ((fail_if_success (with_reducible show Code.wp _ (Code.region _ _ _) _ _ _)); go_step)
  refine wp_plain [.val (pv (x) (y)), .val (cv (x) (y) (1)), .new 80 51, .put 2 2 (fun _ => ccs (x) (y) (1))] (by kernel_rfl) (fun β => ?_) (fun β w3 hD => ?_)
  · refine Obs.cons (Ob.load (b0) 0 (pcs (x) (y)) rfl rfl (by kernel_rfl) hr_b0 Tryd.underlying39 rfl (by rw [pcs_length]; exact infoQ)) ?_
    refine Obs.cons (Ob.call 80 #[pv (x) (y)] rfl (fun w => by kernel_rfl) (fun w hg => taken_r (x) (y) (lt_H ho.1) (lt_H ho.2.1) w)) ?_
    refine Obs.cons (Ob.new _ rfl rfl zeroC (by simp [ccs_length])) ?_
    refine Obs.cons (Ob.put 80 rfl rfl rfl (by kernel_rfl) (by kernel_rfl) (by rw [ccs_length]; exact infoC) (ccs_one _ _ _)) ?_
    exact Obs.nil
  replace hr_b0 := rangeAt_grown hr_b0 hD.gr
  replace hr_b0x := rangeAt_grown hr_b0x hD.gr
  replace hr_b0y := rangeAt_grown hr_b0y hD.gr
  obtain ⟨hf_b1, ht_b1⟩ := hD.nw 2 _ _ rfl
  have hr_b1 : w3.rangeAt (β 2) 0 (ccs (x) (y) (1)) := hD.rg 3 2 2 (fun _ => ccs (x) (y) (1)) rfl
  replace hf_b1 := Nat.le_trans hW.2.2 hf_b1
  replace hW := grown_trans hW hD.gr
  clear hD
  simp only [finAct, putAll, valsFrom, Plan.value, Act.put, List.setIfInBounds_toArray, List.set_cons_zero, List.set_cons_succ]
  replace hGl := hGl0.grown hW
  generalize β (0 + 1 + 1) = b1 at *
  have hr_b1x : w3.rangeAt b1 0 (rl (d15 (x))) := rangeAt_left hr_b1
  have hr_b1r := rangeAt_right 17 (rl_length _) hr_b1
  have hr_b1y : w3.rangeAt b1 17 (rl (d15 (y))) := rangeAt_left hr_b1r
  have hr_b1z : w3.rangeAt b1 34 (rl (d15 (1))) := rangeAt_right 17 (rl_length _) hr_b1r
  clear hr_b1r
  repeat ((fail_if_success (with_reducible show Code.wp _ (Code.region _ _ _) _ _ _)); go_step)
  refine wp_plain [.val (bv (dd)), .val (rn (dd)), .new 77 17, .put 2 2 (fun _ => rl (d15 (dd)))] (by kernel_rfl) (fun β => ?_) (fun β w4 hD => ?_)
  · refine Obs.cons (Ob.load (1) 0 (bl (dd)) rfl rfl (by kernel_rfl) hGl.rd Tryd.underlying23 rfl (by rw [bl_length]; exact info32)) ?_
    refine Obs.cons (Ob.call 63 #[bv (dd)] rfl (fun w => by kernel_rfl) (fun w hg => read_d w)) ?_
    refine Obs.cons (Ob.new _ rfl rfl zeroR (by simp [rl_length])) ?_
    refine Obs.cons (Ob.put 77 rfl rfl rfl (by kernel_rfl) (by kernel_rfl) (by rw [rl_length]; exact infoR) (rl_one _)) ?_
    exact Obs.nil
  have hn_b1_b2 := ne_of_freshC hr_b1 (hD.nw 2 _ _ rfl).1
  replace hr_b0 := rangeAt_grown hr_b0 hD.gr
  replace hr_b0x := rangeAt_grown hr_b0x hD.gr
  replace hr_b0y := rangeAt_grown hr_b0y hD.gr
  replace hr_b1 := rangeAt_grown hr_b1 hD.gr
  replace hr_b1x := rangeAt_grown hr_b1x hD.gr
  replace hr_b1y := rangeAt_grown hr_b1y hD.gr
  replace hr_b1z := rangeAt_grown hr_b1z hD.gr
  replace ht_b1 := there_grown ht_b1 hD.gr
  obtain ⟨hf_b2, ht_b2⟩ := hD.nw 2 _ _ rfl
  have hr_b2 : w4.rangeAt (β 2) 0 (rl (d15 (dd))) := hD.rg 3 2 2 (fun _ => rl (d15 (dd))) rfl
  replace hf_b2 := Nat.le_trans hW.2.2 hf_b2
  replace hW := grown_trans hW hD.gr
  clear hD
  simp only [finAct, putAll, valsFrom, Plan.value, Act.put, List.setIfInBounds_toArray, List.set_cons_zero, List.set_cons_succ]
  replace hGl := hGl0.grown hW
  generalize β (0 + 1 + 1) = b2 at *
  have hne : b2 ≠ b1 := Ne.symm hn_b1_b2
  have hP0 : ZX w b1 b2 (x + H * (y + H * 1)) w4 := ⟨by rw [pack_0 (lt_H ho.1), pack_2 (lt_H ho.1) (lt_H ho.2.1), pack_3 (lt_H ho.1) (lt_H ho.2.1)]; exact hr_b1, ht_b1, hr_b2, hne, hf_b1, hW⟩
  have hHo := Hid.of ho
  go_wp2
  go_loopw [6] (fun v6 wr => ∃ (k N : Nat), v6 = .int .i64 (k : Int) ∧ k ≤ 3 ∧ ZX w b1 b2 N wr ∧ At x y k N) (fun v6 _ => (3 - intOf v6).toNat)
  case atStart => exact ⟨0, _, rfl, by decide, hP0, At.start hHo.out⟩
  case round =>
    obtain ⟨k, N, rfl, hk, hX, hA⟩ := hrel
    clear hP0
    by_cases hlt : k < 3
    · have hkk := Hid.of hlt
      have hAA := Hid.of hA
      have hN := hA.1
      clear hA hk hlt
      repeat ((fail_if_success (with_reducible show Code.wp _ (Code.region _ _ _) _ _ _)); go_step)
      refine wp_plain [.imm (.int .i64 (k : Int)), .imm (.bool true)] (by kernel_rfl) (fun β => ?_) (fun β ww hD => ?_)
      · refine Obs.cons (Ob.imm rfl (fun w => by kernel_rfl)) ?_
        refine Obs.cons (Ob.imm rfl (fun w => exec_lssI rfl (k : Int) 3 (by kernel_rfl) (by kernel_rfl) true (decide_eq_true (by have := hkk.out; omega)))) ?_
        exact Obs.nil
      have hX1 := hX.grown hD.gr
      clear hD hX
      simp only [finAct, putAll, valsFrom, Plan.value, Act.put, List.setIfInBounds_toArray, List.set_cons_zero, List.set_cons_succ]
      repeat ((fail_if_success (with_reducible show Code.wp _ (Code.region _ _ _) _ _ _)); go_step)
      refine wp_plain_fin [.val (cv (N % H) (N / H % H) (N / H / H)), .val (cv (N % H) (N / H % H) (N / H / H)), .val (rn dd), .any (fun z => cv (z % H) (z / H % H) (z / H / H)) [] (fun _ z => z / H / H < H ∧ SumR (N % H) (N / H % H) (N / H / H) (N % H) (N / H % H) (N / H / H) dd z), .fin] b1 0 (fun β => ccs (β 3 % H) (β 3 / H % H) (β 3 / H / H)) (by kernel_rfl) (fun β => ?_) (fun β wq hD => ?_)
      · refine Obs.cons (Ob.load b1 0 (ccs (N % H) (N / H % H) (N / H / H)) rfl rfl (by kernel_rfl) hX1.rg Tryd.underlying80 rfl (by rw [ccs_length]; exact infoC)) ?_
        refine Obs.cons (Ob.load b1 0 (ccs (N % H) (N / H % H) (N / H / H)) rfl rfl (by kernel_rfl) hX1.rg Tryd.underlying80 rfl (by rw [ccs_length]; exact infoC)) ?_
        refine Obs.cons (Ob.load b2 0 (rl (d15 dd)) rfl rfl (by kernel_rfl) hX1.rd Tryd.underlying77 rfl (by rw [rl_length]; exact infoR)) ?_
        refine Obs.cons (Ob.any 79 #[cv (N % H) (N / H % H) (N / H / H), cv (N % H) (N / H % H) (N / H / H), rn dd] rfl (fun w => by kernel_rfl) (fun _ w _ => sum_r (N % H) (N / H % H) (N / H / H) (N % H) (N / H % H) (N / H / H) dd (mod_HH _) (mod_HH _) hN (mod_HH _) (mod_HH _) hN dd_H w)) ?_
        refine Obs.cons (Ob.fin rfl (by rw [ccs_length]; exact hX1.th) rfl (by kernel_rfl) (by kernel_rfl) (by rw [ccs_length]; exact infoC) (ccs_one _ _ _)) ?_
        exact Obs.nil
      obtain ⟨hQ, qQ⟩ : β 3 / H / H < H ∧ SumR (N % H) (N / H % H) (N / H / H) (N % H) (N / H % H) (N / H / H) dd (β 3) := hD.an 3 _ _ _ rfl
      have hX2 := Hid.of ((hX1.grown hD.gr).store (β 3))
      have hA2 := Hid.of (hAA.out.step hQ qQ)
      clear hD qQ hQ hAA hX1 hN
      simp only [finAct, putAll, valsFrom, Plan.value, Act.put, List.setIfInBounds_toArray, List.set_cons_zero, List.set_cons_succ]
      generalize β (0 + 1 + 1 + 1) = Q at *
      generalize wq.setCells b1 0 (ccs (Q % H) (Q / H % H) (Q / H / H)) = wv at *
      have eL := Hid.of (show wrap64 ((k : Int) + 1) = ((k + 1 : Nat) : Int) by have := hkk.out; unfold wrap64; omega)
      go_wp2
      rw [eL.out]
      exact ⟨⟨k + 1, Q, rfl, hkk.out, hX2.out, hA2.out⟩, by have := hkk.out; simp [intOf]; omega⟩
    · obtain rfl : k = 3 := by omega
      have hAA := Hid.of hA
      have hN := hA.1
      clear hA hk hlt
      repeat ((fail_if_success (with_reducible show Code.wp _ (Code.region _ _ _) _ _ _)); go_step)
      refine wp_plain [.imm (.int .i64 (3 : Nat)), .imm (.bool false)] (by kernel_rfl) (fun β => ?_) (fun β ww hD => ?_)
      · refine Obs.cons (Ob.imm rfl (fun w => by kernel_rfl)) ?_
        refine Obs.cons (Ob.imm rfl (fun w => by kernel_rfl)) ?_
        exact Obs.nil
      have hX1 := hX.grown hD.gr
      clear hD hX
      simp only [finAct, putAll, valsFrom, Plan.value, Act.put, List.setIfInBounds_toArray, List.set_cons_zero, List.set_cons_succ]
      repeat ((fail_if_success (with_reducible show Code.wp _ (Code.region _ _ _) _ _ _)); go_step)
      refine wp_plain [.val (cv (N % H) (N / H % H) (N / H / H)), .val (pv ((N % H) * inv (N / H / H) % p) ((N / H % H) * inv (N / H / H) % p)), .val (pv 0 1), .imm (.bool (smB x y)), .imm (.bool (smB x y)), .imm (.int .i64 0)] (by kernel_rfl) (fun β => ?_) (fun β wq hD => ?_)
      · refine Obs.cons (Ob.load b1 0 (ccs (N % H) (N / H % H) (N / H / H)) rfl rfl (by kernel_rfl) hX1.rg Tryd.underlying80 rfl (by rw [ccs_length]; exact infoC)) ?_
        refine Obs.cons (Ob.call 59 #[cv (N % H) (N / H % H) (N / H / H)] rfl (fun w => by kernel_rfl) (fun w hg => told_r (N % H) (N / H % H) (N / H / H) (mod_HH _) (mod_HH _) hN w)) ?_
        refine Obs.cons (Ob.call 23 #[] rfl (fun w => by kernel_rfl) (fun w hg => IdentityR w)) ?_
        refine Obs.cons (Ob.imm rfl (fun w => exec_eqlQ rfl _ _ 0 1 (by kernel_rfl) (by kernel_rfl) (mod_lt256 _) (mod_lt256 _) (by decide) (by decide) (smB x y) hAA.out.fin w)) ?_
        refine Obs.cons (Ob.imm rfl (fun w => by kernel_rfl)) ?_
        refine Obs.cons (Ob.imm rfl (fun w => by kernel_rfl)) ?_
        exact Obs.nil
      have hW9 := grown_trans hX1.gw hD.gr
      clear hD hX1
      simp only [finAct, putAll, valsFrom, Plan.value, Act.put, List.setIfInBounds_toArray, List.set_cons_zero, List.set_cons_succ]
      repeat go_step
      refine bodyPost_ret (v := .tuple #[.bool (smB x y), .int .i64 0]) (result_tmp2 Tryd.results45 _ _ (.bool (smB x y)) (.int .i64 0) ?hp ?hv) ?hd ?_
      case hp => rfl
      case hv => rfl
      case hd => rfl
      exact ⟨rfl, hW9⟩

end Go.Proofs.YtoimglbjepppmaaDoor
