import Derived.Test.YtoonlnncboikfaaEng3
namespace Go.Proofs.Ytoonlnncboikfaa
open Go.RowKit Go.Shelf FieldNum

theorem Hid.of {q : Prop} (h : q) : Hid q := h

/-- the number of the bytes from k on -/
def dig (a k : Nat) : Nat := a / 256 ^ k % p
def two (j : Nat) : Nat := 2 ^ j % p
theorem dig_lt (a k : Nat) : dig a k < M := mod_lt256 _
theorem two_lt (j : Nat) : two j < M := mod_lt256 _
theorem dig_step (a i : Nat) : fadd (fmul (dig a (i + 1)) 256) (a / 256 ^ i % 256) = dig a i := by
  unfold fadd fmul dig
  rw [Nat.mod_mul_mod, Nat.mod_add_mod, Nat.pow_succ, ← Nat.div_div_eq_div_mul]
  congr 1
  omega
theorem two_step (j : Nat) : fadd (two j) (two j) = two (j + 1) := by
  unfold fadd two
  rw [← Nat.add_mod, Nat.pow_succ]
  congr 1
  omega
theorem dig_zero (a : Nat) : dig a 0 = fred a := by unfold dig fred; rw [Nat.pow_zero, Nat.div_one]
theorem dig_top (a : Nat) (ha : a < M) : dig a 32 = 0 := by
  unfold dig
  have e : 256 ^ 32 = M := by decide
  rw [e, Nat.div_eq_of_lt ha]; rfl
theorem two_zero : two 0 = 1 := by decide +kernel

/-- a load in a region that draws, here and now -/
theorem load_op {ops : Array Oper} {Q : Exit → Act → World → Prop} {a : Act} {w : World} {o : Oper} {K : Act → World → Prop} (n b : Nat) {x : Operand} (ho : o.op = .load 22 x) (hw : Region.wanted o (yielded ops a.tmps) = true)
    (hx : a.eval x = .pointer (some ⟨b, 0, none⟩)) (hc : w.rangeAt b 0 (bl n)) (h : K (a.put o.dst (bv n)) w) :
    if Region.wanted o (yielded ops a.tmps) = true then Oper.wp Try.prog o a w K Q else K (a.put o.dst undef) w := by
  rw [if_pos hw]
  exact wp_load_mid 22 x ho b 0 hx (bl n) _ hc Try.underlying22 rfl (by rw [bl_length]; exact info32) h

theorem two_top : two 255 = 19 := by decide +kernel

/-- what the variables hold -/
structure DG (w0 : World) (ba bb bx a xv : Nat) (wr : World) : Prop where
  ra : wr.rangeAt ba 0 (bl a)
  rb : wr.rangeAt bb 0 (bl 256)
  rx : wr.rangeAt bx 0 (bl xv)
  tx : wr.there bx 0 32
  nab : ba ≠ bx
  nbb : bb ≠ bx
  gx : w0.heap.size ≤ bx
  gw : Grown w0 wr

theorem DG.grown {w0 wr w' : World} {ba bb bx a xv : Nat} (h : DG w0 ba bb bx a xv wr) (hg : Grown wr w') : DG w0 ba bb bx a xv w' :=
  ⟨rangeAt_grown h.ra hg, rangeAt_grown h.rb hg, rangeAt_grown h.rx hg, there_grown h.tx hg, h.nab, h.nbb, h.gx, grown_trans h.gw hg⟩
theorem DG.store {w0 wr : World} {ba bb bx a xv : Nat} (h : DG w0 ba bb bx a xv wr) (n : Nat) : DG w0 ba bb bx a n (wr.setCells bx 0 (bl n)) :=
  ⟨World.rangeAt_setCells_apart h.ra _ _ _ (.inl h.nab), World.rangeAt_setCells_apart h.rb _ _ _ (.inl h.nbb), World.rangeAt_setCells_same _ _ _ _ (by rw [bl_length]; exact h.tx), World.there_setCells h.tx _ _ _, h.nab, h.nbb, h.gx, grown_setCells h.gx _ _ h.gw⟩

/-- a store into a variable that is there, in a region that draws -/
theorem store_var {ops : Array Oper} {Q : Exit → Act → World → Prop} {a : Act} {w : World} {o : Oper} {K : Act → World → Prop} (n b : Nat) {x y : Operand} (ho : o.op = .store 22 x y) (hw : Region.wanted o (yielded ops a.tmps) = true)
    (hx : a.eval x = .pointer (some ⟨b, 0, none⟩)) (hy : a.eval y = bv n) (ht : w.there b 0 32) (h : ∀ w2, w2 = w.setCells b 0 (bl n) → K (a.put o.dst undef) w2) :
    if Region.wanted o (yielded ops a.tmps) = true then Oper.wp Try.prog o a w K Q else K (a.put o.dst undef) w :=
  store32 n b ho hw hx hy ht (h _ rfl)

theorem wpList_store_var {ops : Array Oper} {rest : List Oper} {op : Oper} {a : Act} {w : World} {Q : Exit → Act → World → Prop} (hgd : op.guard = none) (x y : Operand) (ho : op.op = .store 22 x y)
    (b n : Nat) (hx : a.eval x = .pointer (some ⟨b, 0, none⟩)) (hy : a.eval y = bv n) (ht : w.there b 0 32)
    (h : ∀ w2, w2 = w.setCells b 0 (bl n) → wpList Try.prog ops Q rest (a.put op.dst undef) w2) : wpList Try.prog ops Q (op :: rest) a w :=
  wpList_store32 hgd x y ho b n hx hy ht (h _ rfl)

theorem bv_256 : bv 256 = .agg #[Value.int IntKind.u8 0, Value.int IntKind.u8 1, Value.int IntKind.u8 0, Value.int IntKind.u8 0, Value.int IntKind.u8 0, Value.int IntKind.u8 0, Value.int IntKind.u8 0, Value.int IntKind.u8 0, Value.int IntKind.u8 0, Value.int IntKind.u8 0, Value.int IntKind.u8 0, Value.int IntKind.u8 0, Value.int IntKind.u8 0, Value.int IntKind.u8 0, Value.int IntKind.u8 0, Value.int IntKind.u8 0, Value.int IntKind.u8 0, Value.int IntKind.u8 0, Value.int IntKind.u8 0, Value.int IntKind.u8 0, Value.int IntKind.u8 0, Value.int IntKind.u8 0, Value.int IntKind.u8 0, Value.int IntKind.u8 0, Value.int IntKind.u8 0, Value.int IntKind.u8 0, Value.int IntKind.u8 0, Value.int IntKind.u8 0, Value.int IntKind.u8 0, Value.int IntKind.u8 0, Value.int IntKind.u8 0, Value.int IntKind.u8 0] := by
  have : bl 256 = [Value.int IntKind.u8 0, Value.int IntKind.u8 1, Value.int IntKind.u8 0, Value.int IntKind.u8 0, Value.int IntKind.u8 0, Value.int IntKind.u8 0, Value.int IntKind.u8 0, Value.int IntKind.u8 0, Value.int IntKind.u8 0, Value.int IntKind.u8 0, Value.int IntKind.u8 0, Value.int IntKind.u8 0, Value.int IntKind.u8 0, Value.int IntKind.u8 0, Value.int IntKind.u8 0, Value.int IntKind.u8 0, Value.int IntKind.u8 0, Value.int IntKind.u8 0, Value.int IntKind.u8 0, Value.int IntKind.u8 0, Value.int IntKind.u8 0, Value.int IntKind.u8 0, Value.int IntKind.u8 0, Value.int IntKind.u8 0, Value.int IntKind.u8 0, Value.int IntKind.u8 0, Value.int IntKind.u8 0, Value.int IntKind.u8 0, Value.int IntKind.u8 0, Value.int IntKind.u8 0, Value.int IntKind.u8 0, Value.int IntKind.u8 0] := by
    simp [bl, List.range, List.range.loop]
  unfold bv; rw [this]

set_option maxRecDepth 100000 in
set_option maxHeartbeats 2000000 in
theorem digits_walk (a : Nat) (ha : a < M) (w : World) :
    Calls Try.prog 3 #[bv a] w fun e w' => e = .returned (.bool true) ∧ Grown w w' := by
  rw [bv]
  go_enter Try.func3, Try.ntmps3
  go_wp2_with (with_reducible show wpList _ _ _ ({ dst := _, op := Op.store 22 _ _, type := _, pos := _, after := _, guard := _ } :: _) _ _; refine Shut.out ?_)
  show wpList _ _ _ _ _ _
  obtain ⟨hE0, hW0⟩ := params1 w a
  have hs0 : (w.alloc (Obj.cells (bl a).toArray 22)).heap.size = w.heap.size + 1 := by simp
  rw [← hs0]
  generalize (w.alloc (Obj.cells (bl a).toArray 22)) = W0 at *
  have hs1 : w.heap.size < W0.heap.size := by omega
  clear hs0
  refine wpList_store_new 256 (by simp) rfl rfl rfl bv_256.symm (fun w1 hg1 hr1 _ => ?_)
  simp only [Act.put]
  have hE1 := hE0.grown hg1
  have hW1 := grown_trans hW0 hg1
  clear hE0 hW0
  apply wpList_nil
  -- DIG
  repeat ((fail_if_success (with_reducible show Code.wp _ (Code.region _ _ _) _ _ _)); go_step)
  apply wp_region_lit
  go_wp2_with fail
  refine Calls.mono (number_nat 0 (by decide) 0 rfl _) ?_
  rintro e w2 ⟨rfl, hg2⟩
  dsimp only
  go_step
  go_wp2_with (with_reducible show wpList _ _ _ ({ dst := _, op := Op.store 22 _ _, type := _, pos := _, after := _, guard := _ } :: _) _ _; refine Shut.out ?_)
  show wpList _ _ _ _ _ _
  refine wpList_store_new 0 (by simp) rfl rfl rfl rfl (fun w3 hg3 hr3 ht3 => ?_)
  simp only [Act.put]
  have hD0 : DG w w.heap.size W0.heap.size w2.heap.size a (dig a 32) w3 := by
    rw [dig_top a ha]
    have h1 : W0.heap.size < w1.heap.size := block_lt_of_cell (hr1 0 _ (bl_get 256 0 (by decide)))
    have h2 := hg2.2.2
    exact ⟨((hE1.grown hg2).grown hg3) _ (.head _), rangeAt_grown (rangeAt_grown hr1 hg2) hg3, hr3, ht3, by omega, by omega, by omega, grown_trans (grown_trans hW1 hg2) hg3⟩
  clear hE1 hW1 hg2 hg3 hr1 hr3 ht3 hg1
  apply wpList_nil
  go_wp2
  generalize w2.heap.size = bx at *
  generalize W0.heap.size = bb at *
  go_loopw [5] (fun v5 wr => ∃ k : Nat, v5 = .int .i64 ((k : Int) - 1) ∧ k ≤ 32 ∧ DG w w.heap.size bb bx a (dig a k) wr) (fun v5 _ => (intOf v5 + 1).toNat)
  case atStart => exact ⟨32, rfl, by decide, hD0⟩
  case round =>
    obtain ⟨k, rfl, hk, hD⟩ := hrel
    clear hD0
    rcases Nat.eq_zero_or_pos k with rfl | hpos
    · have hD1 := Hid.of (dig_zero a)
      go_wp2
      refine wp_region_noPanic ?_
      refine wp_region_held_drew (S := DG w w.heap.size bb bx a (dig a 0)) (by kernel_rfl) (hD.grown (Grown.drew (Grown.refl _))) (fun hH0 => ?_)
      clear hD
      refine take32 0 (dig a 0) (bx) rfl (by kernel_rfl) (by kernel_rfl) (by kernel_rfl) (fun _ _ _ h => h) (by rfl) rfl rfl (fun _ h => h.rx) hH0 ?_
      simp only [Act.put, List.setIfInBounds_toArray, List.set_cons_zero, List.set_cons_succ]
      refine take32 1 (a) (w.heap.size) rfl (by kernel_rfl) (by kernel_rfl) (by kernel_rfl) (fun _ _ _ h => h) (by rfl) rfl rfl (fun _ h => h.ra) hH0 ?_
      simp only [Act.put, List.setIfInBounds_toArray, List.set_cons_zero, List.set_cons_succ]
      refine step1 2 (by kernel_rfl) rfl (fun K hK => ?_)
      rw [if_pos (by rfl)]
      go_simp
      refine Calls.mono (Reduce_f a ha _) ?_
      rintro e v1 ⟨rfl, hv1⟩
      dsimp only
      refine hK.out _ _ (hH0.grown hv1) (fun hH1 => ?_)
      clear hK K hH0 hv1
      refine takeV 3 (.bool false) rfl (by kernel_rfl) (by kernel_rfl) (by kernel_rfl) (fun _ _ _ h => h) (by rfl) (fun w _ => exec_neq_same rfl (dig a 0) (fred a) rfl rfl (dig_lt _ _) (fred_lt _) hD1.out w) hH1 ?_
      simp only [Act.put, List.setIfInBounds_toArray, List.set_cons_zero, List.set_cons_succ]
      refine takeV 4 (.bool false) rfl (by kernel_rfl) (by kernel_rfl) (by kernel_rfl) (fun _ _ _ h => h) (by rfl) (fun w _ => rfl) hH1 ?_
      simp only [Act.put, List.setIfInBounds_toArray, List.set_cons_zero, List.set_cons_succ]
      refine take32 8 (256) (bb) rfl (by kernel_rfl) (by kernel_rfl) (by kernel_rfl) (fun _ _ _ h => h) (by rfl) rfl rfl (fun _ h => h.rb) hH1 ?_
      simp only [Act.put, List.setIfInBounds_toArray, List.set_cons_zero, List.set_cons_succ]
      refine step1 5 (by kernel_rfl) rfl (fun K hK => ?_)
      rw [if_pos (by rfl)]
      go_simp
      refine Calls.mono (number_nat 255 (by decide) 255 rfl _) ?_
      rintro e v2 ⟨rfl, hv2⟩
      dsimp only
      refine hK.out _ _ (hH1.grown hv2) (fun hH2 => ?_)
      clear hK K hH1 hv2
      refine step1 6 (by kernel_rfl) rfl (fun K hK => ?_)
      rw [if_pos (by rfl)]
      go_simp
      refine Calls.mono (number_nat 1 (by decide) 1 rfl _) ?_
      rintro e v3 ⟨rfl, hv3⟩
      dsimp only
      refine hK.out _ _ (hH2.grown hv3) (fun hH3 => ?_)
      clear hK K hH2 hv3
      refine step1 7 (by kernel_rfl) rfl (fun K hK => ?_)
      rw [if_pos (by rfl)]
      go_simp
      refine Calls.mono (Add_f 255 1 (by decide) (by decide) _) ?_
      rintro e v4 ⟨rfl, hv4⟩
      dsimp only
      refine hK.out _ _ (hH3.grown hv4) (fun hH4 => ?_)
      clear hK K hH3 hv4
      refine takeV 9 (.bool false) rfl (by kernel_rfl) (by kernel_rfl) (by kernel_rfl) (fun _ _ _ h => h) (by rfl) (fun w _ => exec_neq_same rfl (fadd 255 1) 256 rfl rfl (fadd_lt _ _) (by decide) (by decide +kernel) w) hH4 ?_
      simp only [Act.put, List.setIfInBounds_toArray, List.set_cons_zero, List.set_cons_succ]
      refine takeV 10 (.bool false) rfl (by kernel_rfl) (by kernel_rfl) (by kernel_rfl) (fun _ _ _ h => h) (by rfl) (fun w _ => rfl) hH4 ?_
      simp only [Act.put, List.setIfInBounds_toArray, List.set_cons_zero, List.set_cons_succ]
      refine wpAnyH_done (by kernel_rfl) ?_ _
      refine NoPanic.normal ?_
      have hW4 := hH4.gw
      clear hH4 hD1
      repeat ((fail_if_success (with_reducible show Code.wp _ (Code.region _ _ _) _ _ _)); go_step)
      apply wp_region_lit
      go_wp2_with fail
      refine Calls.mono (number_nat 1 (by decide) 1 rfl _) ?_
      rintro e v5 ⟨rfl, hv5⟩
      dsimp only
      go_step
      have hW5 := grown_trans hW4 hv5
      clear hW4 hv5
      go_wp2_with (with_reducible show wpList _ _ _ ({ dst := _, op := Op.store 22 _ _, type := _, pos := _, after := _, guard := _ } :: _) _ _; refine Shut.out ?_)
      show wpList _ _ _ _ _ _
      refine wpList_store_new 1 (by simp) rfl rfl rfl rfl (fun v6 hv6 hr6 ht6 => ?_)
      simp only [Act.put]
      have hW6 := grown_trans hW5 hv6
      have hby := hW5.2.2
      have hr6' : v6.rangeAt v5.heap.size 0 (bl (two 0)) := by rw [two_zero]; exact hr6
      clear hW5 hv6 hr6
      generalize v5.heap.size = by_ at *
      apply wpList_nil
      go_wp2
      go_loopw [7] (fun v7 wr => ∃ j : Nat, v7 = .int .i64 j ∧ j ≤ 255 ∧ wr.rangeAt by_ 0 (bl (two j)) ∧ wr.there by_ 0 32 ∧ Grown w wr) (fun v7 _ => (255 - intOf v7).toNat)
      case atStart => exact ⟨0, rfl, by decide, hr6', ht6, hW6⟩
      case round =>
        obtain ⟨j, rfl, hj, hr, ht, hg⟩ := hrel
        clear hr6' ht6 hW6
        by_cases hlt : j < 255
        · have hst := Hid.of (two_step j)
          have j0 : (0 : Int) ≤ (j : Int) := by omega
          have j1 : (j : Int) < 255 := by omega
          have wj : IntKind.i64.wrap ((j : Int) + 1) = (j : Int) + 1 := by rw [IntKind.wrap_i64]; omega
          go_wp2_with (with_reducible show wpList _ _ _ ({ dst := _, op := Op.load 22 _, type := _, pos := _, after := _, guard := _ } :: _) _ _; refine Shut.out ?_)
          show wpList _ _ _ _ _ _
          refine wpList_load32 rfl _ rfl _ rfl (two j) hr ?_
          simp only [Act.put, List.setIfInBounds_toArray, List.set_cons_zero, List.set_cons_succ]
          refine wpList_load32 rfl _ rfl _ rfl (two j) hr ?_
          simp only [Act.put, List.setIfInBounds_toArray, List.set_cons_zero, List.set_cons_succ]
          go_wp2_with fail
          refine Calls.mono (Add_f (two j) (two j) (two_lt _) (two_lt _) _) ?_
          rintro e v7 ⟨rfl, hv7⟩
          dsimp only
          go_step
          have ht7 := there_grown ht hv7
          have hg7 := grown_trans hg hv7
          clear hr ht hg hv7
          refine wpList_store_var rfl _ _ rfl by_ (fadd (two j) (two j)) rfl rfl ht7 (fun v8 hv8 => ?_)
          simp only [Act.put]
          have hr8 : v8.rangeAt by_ 0 (bl (two (j + 1))) := by rw [hv8, hst.out]; exact World.rangeAt_setCells_same _ _ _ _ (by rw [bl_length]; exact ht7)
          have ht8 : v8.there by_ 0 32 := by rw [hv8]; exact World.there_setCells ht7 _ _ _
          have hg8 : Grown w v8 := by rw [hv8]; exact grown_setCells hby _ _ hg7
          clear hv8 ht7 hg7 hst
          apply wpList_nil
          go_wp2
          go_roundw
          case rel => exact ⟨j + 1, by go_num, by omega, hr8, ht8, hg8⟩
          case measure => simp [intOf]; omega
        · have h255 : j = 255 := by omega
          subst h255
          have htop := Hid.of two_top
          go_wp2
          refine wp_region_noPanic ?_
          refine wp_region_held_drew (S := fun w' => Holds [(by_, two 255)] w' ∧ Grown w w') (by kernel_rfl) ⟨(Holds.nil _).cons hr, hg⟩ (fun hH0 => ?_)
          clear hr ht hg
          refine take32 0 (two 255) (by_) rfl (by kernel_rfl) (by kernel_rfl) (by kernel_rfl) (fun _ _ _ h => h) (by rfl) rfl rfl (fun _ h => h.1 _ (.head _)) hH0 ?_
          simp only [Act.put, List.setIfInBounds_toArray, List.set_cons_zero, List.set_cons_succ]
          refine step1 1 (by kernel_rfl) rfl (fun K hK => ?_)
          rw [if_pos (by rfl)]
          go_simp
          refine Calls.mono (number_nat 19 (by decide) 19 rfl _) ?_
          rintro e v9 ⟨rfl, hv9⟩
          dsimp only
          refine hK.out _ _ (keepE hH0 hv9) (fun hH1 => ?_)
          clear hK K hH0 hv9
          refine takeV 2 (.bool true) rfl (by kernel_rfl) (by kernel_rfl) (by kernel_rfl) (fun _ _ _ h => h) (by rfl) (fun w _ => exec_eql_same rfl (two 255) 19 rfl rfl (two_lt _) (by decide) htop.out w) hH1 ?_
          simp only [Act.put, List.setIfInBounds_toArray, List.set_cons_zero, List.set_cons_succ]
          refine takeV 3 (.bool true) rfl (by kernel_rfl) (by kernel_rfl) (by kernel_rfl) (fun _ _ _ h => h) (by rfl) (fun w _ => rfl) hH1 ?_
          simp only [Act.put, List.setIfInBounds_toArray, List.set_cons_zero, List.set_cons_succ]
          refine wpAnyH_done (by kernel_rfl) ?_ _
          refine NoPanic.normal ?_
          repeat go_step
          go_ret
          exact ⟨rfl, hH1.2⟩
    · obtain ⟨i, rfl⟩ : ∃ i, k = i + 1 := ⟨k - 1, by omega⟩
      obtain ⟨c, hc⟩ : ∃ c : Nat, c = a / 256 ^ i % 256 := ⟨_, rfl⟩
      have hc256 : c < 256 := by omega
      have hstep := dig_step a i
      rw [← hc] at hstep
      have hdig := Hid.of hstep
      have hcell : ∀ wr : World, wr.rangeAt w.heap.size 0 (bl a) → wr.cell? ⟨w.heap.size, i, none⟩ = some (.int .u8 (c : Int)) := by
        intro wr h
        have := h i _ (bl_get a i (by omega))
        rw [Nat.zero_add, ← hc] at this
        exact this
      clear hstep hc
      have ei : ((i + 1 : Nat) : Int) - 1 = (i : Int) := by omega
      rw [ei]
      clear ei
      have b0 : (0 : Int) ≤ (i : Int) := by omega
      have b1 : (i : Int) < 32 := by omega
      have wi : IntKind.i64.wrap ((i : Int) - 1) = (i : Int) - 1 := by rw [IntKind.wrap_i64]; omega
      go_wp2_with (with_reducible show wpList _ _ _ ({ dst := _, op := Op.load 22 _, type := _, pos := _, after := _, guard := _ } :: _) _ _; refine Shut.out ?_)
      show wpList _ _ _ _ _ _
      refine wpList_load32 rfl _ rfl _ rfl (dig a (i + 1)) hD.rx ?_
      simp only [Act.put, List.setIfInBounds_toArray, List.set_cons_zero, List.set_cons_succ]
      refine wpList_load32 rfl _ rfl _ rfl 256 hD.rb ?_
      simp only [Act.put, List.setIfInBounds_toArray, List.set_cons_zero, List.set_cons_succ]
      go_wp2_with fail
      refine Calls.mono (Mul_f (dig a (i + 1)) 256 (dig_lt _ _) (by decide) _) ?_
      rintro e u1 ⟨rfl, hgu1⟩
      dsimp only
      go_step
      refine wpList_store_var rfl _ _ rfl bx (fmul (dig a (i + 1)) 256) rfl rfl (hD.grown hgu1).tx (fun u2 hu2 => ?_)
      have hD2 := (hD.grown hgu1).store (fmul (dig a (i + 1)) 256)
      rw [← hu2] at hD2
      clear hu2 hD hgu1
      simp only [Act.put]
      apply wpList_nil
      repeat ((fail_if_success (with_reducible show Code.wp _ (Code.region _ _ _) _ _ _)); go_step)
      refine wp_region_noPanic ?_
      have hS0 : Holds [(w.heap.size, a)] u2.drew ∧ Grown w u2.drew := ⟨(Holds.nil _).cons hD2.ra, hD2.gw⟩
      have hX0 := hD2.grown (Grown.drew (Grown.refl _))
      clear hD2
      refine wp_region_held_drew (S := fun w' => Holds [(w.heap.size, a)] w' ∧ Grown w w') (by kernel_rfl) hS0 (fun hH0 => ?_)
      clear hS0
      refine takeV 1 (.int .i64 i) rfl (by kernel_rfl) (by kernel_rfl) (by kernel_rfl) (fun _ _ _ h => h) (by rfl) (fun w _ => rfl) hH0 ?_
      simp only [Act.put, List.setIfInBounds_toArray, List.set_cons_zero, List.set_cons_succ]
      refine takeV 2 (.pointer (some ⟨w.heap.size, i, none⟩)) rfl (by kernel_rfl) (by kernel_rfl) (by kernel_rfl) (fun _ _ _ h => h) (by rfl) (fun w _ => by go_simp) hH0 ?_
      simp only [Act.put, List.setIfInBounds_toArray, List.set_cons_zero, List.set_cons_succ]
      refine takeV 3 (.int .u8 c) rfl (by kernel_rfl) (by kernel_rfl) (by kernel_rfl) (fun _ _ _ h => h) (by rfl) (fun w h => by have hcc := hcell _ (h.1 _ (.head _)); go_simp) hH0 ?_
      simp only [Act.put, List.setIfInBounds_toArray, List.set_cons_zero, List.set_cons_succ]
      refine step2 0 4 (by kernel_rfl) rfl rfl (fun K hK => ?_) (fun K hK => ?_)
      · -- the load first
        refine load_op (fmul (dig a (i + 1)) 256) bx rfl (by rfl) rfl hX0.rx ?_
        simp only [Act.put, List.setIfInBounds_toArray, List.set_cons_zero, List.set_cons_succ]
        refine hK.out _ _ hH0 (fun hH1 => ?_)
        clear hK K
        refine step1 4 (by kernel_rfl) rfl (fun K hK => ?_)
        rw [if_pos (by rfl)]
        go_simp
        refine Calls.mono (number_nat c hc256 c rfl _) ?_
        rintro e u3 ⟨rfl, hg3⟩
        dsimp only
        have hX2 := hX0.grown hg3
        refine hK.out _ _ (keepE hH1 hg3) (fun hH2 => ?_)
        clear hK K hg3
        refine step1 5 (by kernel_rfl) rfl (fun K hK => ?_)
        rw [if_pos (by rfl)]
        go_simp
        refine Calls.mono (Add_f (fmul (dig a (i + 1)) 256) c (fmul_lt _ _) (by unfold M; omega) _) ?_
        rintro e u4 ⟨rfl, hg4⟩
        dsimp only
        have hX8 := hX2.grown hg4
        refine hK.out _ _ (keepE hH2 hg4) (fun hH8 => ?_)
        clear hK K hg4
        refine step1 6 (by kernel_rfl) rfl (fun K hK => ?_)
        refine store_var (fadd (fmul (dig a (i + 1)) 256) c) bx rfl (by rfl) rfl rfl hX8.tx (fun u5 hu5 => ?_)
        simp only [Act.put]
        have hD3 := hX8.store (fadd (fmul (dig a (i + 1)) 256) c)
        rw [← hu5, hdig.out] at hD3
        clear hu5
        refine hK.out _ _ ⟨(Holds.nil _).cons hD3.ra, hD3.gw⟩ (fun _ => ?_)
        clear hK K
        refine wpAnyH_done (by kernel_rfl) ?_ _
        refine NoPanic.normal ?_
        clear hX8 hH8 hcell hdig
        go_wp2
        go_roundw
        case rel => exact ⟨i, rfl, by omega, hD3⟩
        case measure => simp [intOf]
      · -- the call first
        rw [if_pos (by rfl)]
        go_simp
        refine Calls.mono (number_nat c hc256 c rfl _) ?_
        rintro e u3 ⟨rfl, hg3⟩
        dsimp only
        have hX1 := hX0.grown hg3
        refine hK.out _ _ (keepE hH0 hg3) (fun hH1 => ?_)
        clear hK K hg3
        refine step1 0 (by kernel_rfl) rfl (fun K hK => ?_)
        refine load_op (fmul (dig a (i + 1)) 256) bx rfl (by rfl) rfl hX1.rx ?_
        simp only [Act.put, List.setIfInBounds_toArray, List.set_cons_zero, List.set_cons_succ]
        refine hK.out _ _ hH1 (fun hH2 => ?_)
        clear hK K
        refine step1 5 (by kernel_rfl) rfl (fun K hK => ?_)
        rw [if_pos (by rfl)]
        go_simp
        refine Calls.mono (Add_f (fmul (dig a (i + 1)) 256) c (fmul_lt _ _) (by unfold M; omega) _) ?_
        rintro e u4 ⟨rfl, hg4⟩
        dsimp only
        have hX8 := hX1.grown hg4
        refine hK.out _ _ (keepE hH2 hg4) (fun hH8 => ?_)
        clear hK K hg4
        refine step1 6 (by kernel_rfl) rfl (fun K hK => ?_)
        refine store_var (fadd (fmul (dig a (i + 1)) 256) c) bx rfl (by rfl) rfl rfl hX8.tx (fun u5 hu5 => ?_)
        simp only [Act.put]
        have hD3 := hX8.store (fadd (fmul (dig a (i + 1)) 256) c)
        rw [← hu5, hdig.out] at hD3
        clear hu5
        refine hK.out _ _ ⟨(Holds.nil _).cons hD3.ra, hD3.gw⟩ (fun _ => ?_)
        clear hK K
        refine wpAnyH_done (by kernel_rfl) ?_ _
        refine NoPanic.normal ?_
        clear hX8 hH8 hcell hdig
        go_wp2
        go_roundw
        case rel => exact ⟨i, rfl, by omega, hD3⟩
        case measure => simp [intOf]
end Go.Proofs.Ytoonlnncboikfaa
