import Derived.Test.YteijccjdejjbjaaDoorRg
namespace Go.Proofs.YteijccjdejjbjaaDoor
open Go.RowKit Go.Shelf ScalarNum

theorem infoW8 : (Tryd.prog.info? 84).map (·.size) = some 8 := by kernel_rfl
theorem infoP : (Tryd.prog.info? 66).map (·.size) = some 8 := by kernel_rfl
theorem dg_zero {z i : Nat} (hz : z < M) (hi : 4 ≤ i) : dg B z i = 0 := by
  unfold dg
  rw [Nat.div_eq_of_lt (Nat.lt_of_lt_of_le hz (by rw [← B4]; exact Nat.pow_le_pow_right B_pos hi)), Nat.zero_mod]
theorem wl8_of {z : Nat} (hz : z < M) : wl 8 z = [.int .u64 (dg B z 0 : Nat), .int .u64 (dg B z 1 : Nat), .int .u64 (dg B z 2 : Nat), .int .u64 (dg B z 3 : Nat), .int .u64 0, .int .u64 0, .int .u64 0, .int .u64 0] := by
  have h4 := dg_zero (i := 4) hz (by decide)
  have h5 := dg_zero (i := 5) hz (by decide)
  have h6 := dg_zero (i := 6) hz (by decide)
  have h7 := dg_zero (i := 7) hz (by decide)
  simp [wl, ds, List.range, List.range.loop, h4, h5, h6, h7]

theorem wpList_store_newW {ops : Array Oper} {Q : Exit → Act → World → Prop} {a : Act} {w : World} {rest : List Oper} {o : Oper} {x y : Operand} {c : Array Value} (n : Nat) (hc : 8 ≤ c.size) (hgd : o.guard = none) (ho : o.op = .store 84 x y)
    (hx : a.eval x = .pointer (some ⟨w.heap.size, 0, none⟩)) (hy : a.eval y = wv 8 n)
    (h : ∀ w2, Grown w w2 → w2.rangeAt w.heap.size 0 (wl 8 n) → w2.there w.heap.size 0 8 → wpList Tryd.prog ops Q rest (a.put o.dst undef) w2) :
    wpList Tryd.prog ops Q (o :: rest) a (w.alloc (.cells c 84)) := by
  have ht := there_alloc_new w 84 c 8 hc
  refine wpList_store_mid hgd 84 x y ho w.heap.size 0 (wl 8 n).toArray hx hy (by rw [show (wl 8 n).toArray.size = 8 from by rw [List.size_toArray, wl_length]]; exact ht) (by rw [List.size_toArray, wl_length]; exact infoW8) (all_oneCell_toArray (wl_one 8 n)) ?_
  exact h _ (grown_setCells (Nat.le_refl _) _ _ (Grown.alloc (Grown.refl _) _ _)) (World.rangeAt_setCells_same _ _ _ (wl 8 n) (by rw [wl_length]; exact ht)) (World.there_setCells ht _ _ _)

theorem build_prod {o : Oper} {ρ : Operand → Value} {x y : Operand} {v : Nat} {w : World} (ho : o.op = .build 66 #[(0, x), (1, y)]) (hx : ρ x = wv 4 (v % M)) (hy : ρ y = wv 4 (v / M)) :
    (execOp ρ o).run Tryd.prog w = .ok (.value (wv 8 v)) w := by
  have e1 : wv 4 (v % M) = .agg #[.int .u64 (dg B v 0 : Nat), .int .u64 (dg B v 1 : Nat), .int .u64 (dg B v 2 : Nat), .int .u64 (dg B v 3 : Nat)] := by
    simp [wv, wl, ds, List.range, List.range.loop, dg_mod]
  have e2 : wv 4 (v / M) = .agg #[.int .u64 (dg B v 4 : Nat), .int .u64 (dg B v 5 : Nat), .int .u64 (dg B v 6 : Nat), .int .u64 (dg B v 7 : Nat)] := by
    simp [wv, wl, ds, List.range, List.range.loop, dg_div]
  have e3 : wv 8 v = .agg #[.int .u64 (dg B v 0 : Nat), .int .u64 (dg B v 1 : Nat), .int .u64 (dg B v 2 : Nat), .int .u64 (dg B v 3 : Nat), .int .u64 (dg B v 4 : Nat), .int .u64 (dg B v 5 : Nat), .int .u64 (dg B v 6 : Nat), .int .u64 (dg B v 7 : Nat)] := by
    simp [wv, wl, ds, List.range, List.range.loop]
  rw [e1] at hx
  rw [e2] at hy
  rw [e3]
  unfold execOp
  simp only [ho]
  simp [hx, hy, run_build (P := Tryd.prog) w 66 #[(0, .agg #[.int .u64 (dg B v 0 : Nat), .int .u64 (dg B v 1 : Nat), .int .u64 (dg B v 2 : Nat), .int .u64 (dg B v 3 : Nat)]), (1, .agg #[.int .u64 (dg B v 4 : Nat), .int .u64 (dg B v 5 : Nat), .int .u64 (dg B v 6 : Nat), .int .u64 (dg B v 7 : Nat)])] #[.int .u64 (dg B v 0 : Nat), .int .u64 (dg B v 1 : Nat), .int .u64 (dg B v 2 : Nat), .int .u64 (dg B v 3 : Nat), .int .u64 (dg B v 4 : Nat), .int .u64 (dg B v 5 : Nat), .int .u64 (dg B v 6 : Nat), .int .u64 (dg B v 7 : Nat)] (by kernel_rfl)]
theorem resultP {fn : Func} {q : Tmp} (h : fn.results = #[.cell q 66]) (tmps : Array Value) (w : World) (b n : Nat)
    (hp : tmps.getD q undef = .pointer (some ⟨b, 0, none⟩)) (hc : w.rangeAt b 0 (wl 8 n)) : (results fn tmps).run Tryd.prog w = .ok (wv 8 n) w := by
  have hp' : tmps[q]?.getD undef = .pointer (some ⟨b, 0, none⟩) := by simpa using hp
  simp [results, h, hp', asAddr, run_loadVar_mid w b 0 66 (wl 8 n) _ hc Tryd.underlying66 rfl (by rw [wl_length]; exact infoP), wv]

/-- what the variables hold -/
structure TX (w0 : World) (bw x y v : Nat) (wr : World) : Prop where
  rx : wr.rangeAt w0.heap.size 0 (wl 4 x)
  ry : wr.rangeAt (w0.heap.size + 1) 0 (wl 4 y)
  tr : wr.there (w0.heap.size + 1 + 1 + 1) 0 8
  rw : wr.rangeAt bw 0 (wl 8 v)
  tw : wr.there bw 0 8
  gw : Grown w0 wr

theorem alloc4 (w : World) (t t4 : TypeId) (c1 c2 c3 : List Value) (c4 : Array Value) :
    ((((w.alloc (.cells c1.toArray t)).alloc (.cells c2.toArray t)).alloc (.cells c3.toArray t)).alloc (.cells c4 t4)).rangeAt w.heap.size 0 c1 ∧
    ((((w.alloc (.cells c1.toArray t)).alloc (.cells c2.toArray t)).alloc (.cells c3.toArray t)).alloc (.cells c4 t4)).rangeAt (w.heap.size + 1) 0 c2 ∧
    ((((w.alloc (.cells c1.toArray t)).alloc (.cells c2.toArray t)).alloc (.cells c3.toArray t)).alloc (.cells c4 t4)).there (w.heap.size + 1 + 1 + 1) 0 c4.size ∧
    Grown w ((((w.alloc (.cells c1.toArray t)).alloc (.cells c2.toArray t)).alloc (.cells c3.toArray t)).alloc (.cells c4 t4)) ∧
    ((((w.alloc (.cells c1.toArray t)).alloc (.cells c2.toArray t)).alloc (.cells c3.toArray t)).alloc (.cells c4 t4)).heap.size = w.heap.size + 1 + 1 + 1 + 1 := by
  have g1 : ∀ (w : World) (t : TypeId) (a : Array Value), Grown w (w.alloc (.cells a t)) := fun w t a => Grown.alloc (Grown.refl _) _ _
  have s1 : (w.alloc (.cells c1.toArray t)).heap.size = w.heap.size + 1 := by simp
  have b1 := rangeAt_alloc_new w t c1
  have gV1 := g1 w t c1.toArray
  generalize w.alloc (.cells c1.toArray t) = V1 at *
  have s2 : (V1.alloc (.cells c2.toArray t)).heap.size = w.heap.size + 1 + 1 := by simp [s1]
  have b2 := rangeAt_alloc_new V1 t c2
  rw [s1] at b2
  have gV2 := g1 V1 t c2.toArray
  generalize V1.alloc (.cells c2.toArray t) = V2 at *
  have s3 : (V2.alloc (.cells c3.toArray t)).heap.size = w.heap.size + 1 + 1 + 1 := by simp [s2]
  have gV3 := g1 V2 t c3.toArray
  generalize V2.alloc (.cells c3.toArray t) = V3 at *
  have b4 := there_alloc_new V3 t4 c4 c4.size (Nat.le_refl _)
  rw [s3] at b4
  have g23 := grown_trans gV3 (g1 V3 t4 c4)
  exact ⟨rangeAt_grown (rangeAt_grown b1 gV2) g23, rangeAt_grown b2 g23, b4, grown_trans (grown_trans gV1 gV2) g23, by simp [s3]⟩

set_option maxRecDepth 100000 in
set_option maxHeartbeats 4000000 in
theorem times_num (x y z : Nat) (hx : x < M) (hy : y < M) (hz : z < M) (w : World) : Calls Tryd.prog 45 #[wv 4 x, wv 4 y, wv 4 z] w fun e w' => e = .returned (wv 8 (x * y + z)) ∧ Grown w w' := by
  have h0 := alloc4 w 62 66 (wl 4 x) (wl 4 y) (wl 4 z) #[Value.int IntKind.u64 0, Value.int IntKind.u64 0, Value.int IntKind.u64 0, Value.int IntKind.u64 0, Value.int IntKind.u64 0, Value.int IntKind.u64 0, Value.int IntKind.u64 0, Value.int IntKind.u64 0]
  have z0 : (wl 4 z)[0]? = some (.int .u64 (dg B z 0 : Nat)) := wl_get 4 z 0 (by decide)
  have z1 : (wl 4 z)[1]? = some (.int .u64 (dg B z 1 : Nat)) := wl_get 4 z 1 (by decide)
  have z2 : (wl 4 z)[2]? = some (.int .u64 (dg B z 2 : Nat)) := wl_get 4 z 2 (by decide)
  have z3 : (wl 4 z)[3]? = some (.int .u64 (dg B z 3 : Nat)) := wl_get 4 z 3 (by decide)
  rw [wv, wv, wv]
  go_enter Tryd.func45, Tryd.ntmps45
  go_wp2_with (with_reducible show wpList _ _ _ ({ dst := _, op := Op.store 84 _ _, type := _, pos := _, after := _, guard := _ } :: _) _ _; refine Shut.out ?_)
  show wpList _ _ _ _ _ _
  generalize ((((w.alloc (Obj.cells (wl 4 x).toArray 62)).alloc (Obj.cells (wl 4 y).toArray 62)).alloc (Obj.cells (wl 4 z).toArray 62)).alloc (Obj.cells #[Value.int IntKind.u64 0, Value.int IntKind.u64 0, Value.int IntKind.u64 0, Value.int IntKind.u64 0, Value.int IntKind.u64 0, Value.int IntKind.u64 0, Value.int IntKind.u64 0, Value.int IntKind.u64 0] 66)) = W0 at *
  obtain ⟨r1, r2, t3, g0, s0⟩ := h0
  refine wpList_store_newW z (by simp) rfl rfl (by rw [s0]; rfl) (by rw [wv, wl8_of hz]; rfl) (fun w2 hg2 hr2 ht2 => ?_)
  rw [s0] at hr2 ht2
  simp only [Act.put]
  apply wpList_nil
  have H0 := Hid.of (show TX w (w.heap.size + 1 + 1 + 1 + 1) x y (z + x % B ^ 0 * y) w2 from ⟨rangeAt_grown r1 hg2, rangeAt_grown r2 hg2, there_grown t3 hg2, by rw [Nat.pow_zero, Nat.mod_one, Nat.zero_mul, Nat.add_zero]; exact hr2, ht2, grown_trans g0 hg2⟩)
  clear r1 r2 t3 g0 s0 hg2 hr2 ht2 z0 z1 z2 z3
  go_wp2
  go_loopw [23] (fun v23 wr => ∃ i : Nat, v23 = .int .i64 (i : Int) ∧ i ≤ 4 ∧ TX w (w.heap.size + 1 + 1 + 1 + 1) x y (z + x % B ^ i * y) wr) (fun v23 _ => 4 - (intOf v23).toNat)
  case atStart => exact ⟨0, rfl, by decide, H0.out⟩
  case round =>
    obtain ⟨i, rfl, hi, hT⟩ := hrel
    clear H0
    by_cases hlt : i < 4
    · have b1 : (i : Int) < 4 := by omega
      have HS := Hid.of (show z + x % B ^ i * y < B ^ (i + 4) from times_lt hy hz)
      have HN := Hid.of (times_next x y z i)
      have hxi : dg B x i < B := dg_lt B_pos
      have HX := Hid.of (show (wl 4 x)[i]? = some (.int .u64 (dg B x i : Nat)) from wl_get 4 x i hlt)
      have HT := Hid.of hT
      clear hT
      generalize z + x % B ^ i * y = S at *
      generalize dg B x i = xi at *
      go_wp2
      go_loopw [9, 26] (fun v9 v26 wr => ∃ j v c : Nat, v26 = .int .i64 (j : Int) ∧ v9 = .int .u64 (c : Int) ∧ j ≤ 4 ∧ v + c * B ^ (i + j) = S + xi * (y % B ^ j) * B ^ i ∧ v < B ^ (i + 4) ∧ c < B ∧ TX w (w.heap.size + 1 + 1 + 1 + 1) x y v wr) (fun _ v26 _ => 4 - (intOf v26).toNat)
      case atStart => exact ⟨0, S, 0, rfl, rfl, by decide, by rw [Nat.zero_mul, Nat.pow_zero, Nat.mod_one, Nat.mul_zero, Nat.zero_mul], HS.out, B_pos, HT.out⟩
      case round =>
        obtain ⟨j, v, c, rfl, rfl, hj, eq, hv, hc, hT⟩ := hrel
        clear HT
        by_cases hjt : j < 4
        · have b2 : (j : Int) < 4 := by omega
          have d1 : wr.cell? ⟨w.heap.size, i, none⟩ = some (.int .u64 (xi : Nat)) := by
            have := hT.rx i _ HX.out; rwa [Nat.zero_add] at this
          have d2 : wr.cell? ⟨w.heap.size + 1, j, none⟩ = some (.int .u64 (dg B y j : Nat)) := by
            have := hT.ry j _ (wl_get 4 y j hjt); rwa [Nat.zero_add] at this
          have d3 : wr.cell? ⟨w.heap.size + 1 + 1 + 1 + 1, i + j, none⟩ = some (.int .u64 (dg B v (i + j) : Nat)) := by
            have := hT.rw (i + j) _ (wl_get 8 v (i + j) (by omega)); rwa [Nat.zero_add] at this
          have d4 : wr.frozen? ⟨w.heap.size + 1 + 1 + 1 + 1, i + j, none⟩ = false := by
            have := (hT.tw (i + j) (by omega)).2; rwa [Nat.zero_add] at this
          have l1 := times_step eq
          have hyj : dg B y j < B := dg_lt B_pos
          have hwd : dg B v (i + j) < B := dg_lt B_pos
          have hmul := fun w => mul64 xi (dg B y j) hxi hyj w
          obtain ⟨m1, m2, m3, m4⟩ := mul_word (xi * dg B y j) (dg B v (i + j)) c (mul_le hxi hyj) hwd hc
          have hst := fun z (hz : z < B) => st_lt (n := i + 4) (k := i + j) B_pos hz (by omega) hv
          have hs : (dg B v (i + j) + (xi * dg B y j + c)) % B < B := Nat.mod_lt _ B_pos
          have hst' := hst _ hs
          have hc2 : ∀ w, (callFunc 62 #[.int .u64 ((xi * dg B y j % 18446744073709551616 : Nat) : Int), .int .u64 (dg B v (i + j) : Nat), .int .u64 0]).run Tryd.prog w = .ok (.value (.tuple #[.int .u64 (((xi * dg B y j % 18446744073709551616 + dg B v (i + j)) % 18446744073709551616 : Nat) : Int), .int .u64 (((xi * dg B y j % 18446744073709551616 + dg B v (i + j)) / 18446744073709551616 : Nat) : Int)])) w := fun w => add64 _ _ 0 (by decide) w
          have hc3 : ∀ w, (callFunc 62 #[.int .u64 (((xi * dg B y j % 18446744073709551616 + dg B v (i + j)) % 18446744073709551616 : Nat) : Int), .int .u64 (c : Int), .int .u64 0]).run Tryd.prog w = .ok (.value (.tuple #[.int .u64 ((((xi * dg B y j % 18446744073709551616 + dg B v (i + j)) % 18446744073709551616 + c) % 18446744073709551616 : Nat) : Int), .int .u64 ((((xi * dg B y j % 18446744073709551616 + dg B v (i + j)) % 18446744073709551616 + c) / 18446744073709551616 : Nat) : Int)])) w := fun w => add64 _ _ 0 (by decide) w
          have l1' : st B v (i + j) ((dg B v (i + j) + (xi * dg B y j + c)) % 18446744073709551616) + (dg B v (i + j) + (xi * dg B y j + c)) / 18446744073709551616 * B ^ (i + (j + 1)) = S + xi * (y % B ^ (j + 1)) * B ^ i := l1
          have hst2 : st B v (i + j) ((dg B v (i + j) + (xi * dg B y j + c)) % 18446744073709551616) < B ^ (i + 4) := hst'
          have hs2 : (dg B v (i + j) + (xi * dg B y j + c)) % 18446744073709551616 < B := hs
          have m4' : (dg B v (i + j) + (xi * dg B y j + c)) / 18446744073709551616 < B := m4
          clear l1 hst hst' hs m4
          rw [m3] at hc3
          generalize (dg B v (i + j) + (xi * dg B y j + c)) % 18446744073709551616 = rr at *
          generalize (dg B v (i + j) + (xi * dg B y j + c)) / 18446744073709551616 = cc at *
          generalize ((xi * dg B y j % 18446744073709551616 + dg B v (i + j)) % 18446744073709551616 + c) / 18446744073709551616 = o2 at *
          generalize (xi * dg B y j % 18446744073709551616 + dg B v (i + j)) / 18446744073709551616 = o1 at *
          generalize (xi * dg B y j % 18446744073709551616 + dg B v (i + j)) % 18446744073709551616 = lo2 at *
          generalize xi * dg B y j % 18446744073709551616 = lo at *
          generalize xi * dg B y j / 18446744073709551616 = hi1 at *
          generalize dg B v (i + j) = wd at *
          generalize dg B y j = yj at *
          have w1 : IntKind.u64.wrap ((hi1 : Int) + (o1 : Int)) = ((hi1 + o1 : Nat) : Int) := by rw [IntKind.wrap_u64]; omega
          have w2 : IntKind.u64.wrap (((hi1 + o1 : Nat) : Int) + (o2 : Int)) = (cc : Int) := by
            rw [IntKind.wrap_u64]
            have : cc < 18446744073709551616 := m4'
            omega
          generalize hi1 + o1 = h2 at *
          have b3 : (i : Int) + (j : Int) < 8 := by omega
          have H1 := Hid.of l1'
          have H2 := Hid.of hst2
          have H3 := Hid.of hs2
          have H4 := Hid.of m4'
          have H5 := Hid.of hT
          clear l1' hst2 hs2 m4' hT eq hv hc m1 m2 m3 hyj hwd
          go_wp2
          go_quiet (first | (go_at_call 63; refine Calls.quiet_of_same (hmul _)))
          go_wp2
          go_roundw
          case rel =>
            refine ⟨j + 1, st B v (i + j) rr, cc, by go_num, rfl, by omega, H1.out, H2.out, H4.out, ?_⟩
            obtain ⟨rx, ry, tr, rw', tw, gw⟩ := H5.out
            exact ⟨range_put rx _ _ (by omega) _, range_put ry _ _ (by omega) _, there_setCell tr _ _, wrange_set rw' H3.out (by omega), there_setCell tw _ _, Grown.setCell gw (by show _ ≤ w.heap.size + 1 + 1 + 1 + 1; omega) _⟩
          case measure => simp [intOf]; omega
        · have hj4 : j = 4 := by omega
          subst hj4
          have l1 := times_top eq hv hy
          have d3 : wr.cell? ⟨w.heap.size + 1 + 1 + 1 + 1, i + 4, none⟩ = some (.int .u64 (dg B v (i + 4) : Nat)) := by
            have := hT.rw (i + 4) _ (wl_get 8 v (i + 4) (by omega)); rwa [Nat.zero_add] at this
          have d4 : wr.frozen? ⟨w.heap.size + 1 + 1 + 1 + 1, i + 4, none⟩ = false := by
            have := (hT.tw (i + 4) (by omega)).2; rwa [Nat.zero_add] at this
          generalize dg B v (i + 4) = wd at *
          have b3 : (i : Int) + 4 < 8 := by omega
          have H1 := Hid.of l1
          have H2 := Hid.of hc
          have H5 := Hid.of hT
          clear l1 hc hT eq hv hj hjt
          go_wp2
          go_roundw
          case rel =>
            refine ⟨i + 1, by go_num, by omega, ?_⟩
            rw [← HN.out, ← H1.out]
            obtain ⟨rx, ry, tr, rw', tw, gw⟩ := H5.out
            exact ⟨range_put rx _ _ (by omega) _, range_put ry _ _ (by omega) _, there_setCell tr _ _, wrange_set rw' H2.out (by omega), there_setCell tw _ _, Grown.setCell gw (by show _ ≤ w.heap.size + 1 + 1 + 1 + 1; omega) _⟩
          case measure => simp [intOf]; omega
    · have hi4 : i = 4 := by omega
      subst hi4
      obtain ⟨v, hv⟩ : ∃ v, v = x * y + z := ⟨_, rfl⟩
      rw [B4, Nat.mod_eq_of_lt hx, show z + x * y = v by omega] at hT
      have hv' := Hid.of hv
      clear hv
      have H := Hid.of hT
      clear hT hi hlt
      go_wp2
      refine wp_region_noPanic ?_
      refine wp_region_held_drew (S := fun w' => w'.rangeAt (w.heap.size + 1 + 1 + 1 + 1) 0 (wl 8 v) ∧ w'.there (w.heap.size + 1 + 1 + 1) 0 8 ∧ Grown w w') (by kernel_rfl) ⟨H.out.rw, H.out.tr, H.out.gw⟩ (fun hH => ?_)
      refine takeV 0 (.slice (some ⟨w.heap.size + 1 + 1 + 1 + 1, 0, none⟩) 4 8) rfl (by kernel_rfl) (by kernel_rfl) (by kernel_rfl) (fun _ _ _ h => h) (by rfl) (fun _ _ => by kernel_rfl) hH ?_
      simp only [Act.put, List.setIfInBounds_toArray, List.set_cons_zero, List.set_cons_succ]
      refine takeV 1 (.pointer (some ⟨w.heap.size + 1 + 1 + 1 + 1, 0, none⟩)) rfl (by kernel_rfl) (by kernel_rfl) (by kernel_rfl) (fun _ _ _ h => h) (by rfl) (fun _ _ => by kernel_rfl) hH ?_
      simp only [Act.put, List.setIfInBounds_toArray, List.set_cons_zero, List.set_cons_succ]
      refine takeN 2 (v % M) (w.heap.size + 1 + 1 + 1 + 1) 0 rfl (by kernel_rfl) (by kernel_rfl) (by kernel_rfl) (fun _ _ _ h => h) (by rfl) rfl rfl (fun _ h => range_low h.1) hH ?_
      simp only [Act.put, List.setIfInBounds_toArray, List.set_cons_zero, List.set_cons_succ]
      refine takeV 3 (.slice (some ⟨w.heap.size + 1 + 1 + 1 + 1, 4, none⟩) 4 4) rfl (by kernel_rfl) (by kernel_rfl) (by kernel_rfl) (fun _ _ _ h => h) (by rfl) (fun _ _ => by kernel_rfl) hH ?_
      simp only [Act.put, List.setIfInBounds_toArray, List.set_cons_zero, List.set_cons_succ]
      refine takeV 4 (.pointer (some ⟨w.heap.size + 1 + 1 + 1 + 1, 4, none⟩)) rfl (by kernel_rfl) (by kernel_rfl) (by kernel_rfl) (fun _ _ _ h => h) (by rfl) (fun _ _ => by kernel_rfl) hH ?_
      simp only [Act.put, List.setIfInBounds_toArray, List.set_cons_zero, List.set_cons_succ]
      refine takeN 5 (v / M) (w.heap.size + 1 + 1 + 1 + 1) 4 rfl (by kernel_rfl) (by kernel_rfl) (by kernel_rfl) (fun _ _ _ h => h) (by rfl) rfl rfl (fun _ h => range_high h.1) hH ?_
      simp only [Act.put, List.setIfInBounds_toArray, List.set_cons_zero, List.set_cons_succ]
      refine takeV 6 (wv 8 v) rfl (by kernel_rfl) (by kernel_rfl) (by kernel_rfl) (fun _ _ _ h => h) (by rfl) (fun _ _ => build_prod rfl rfl rfl) hH ?_
      simp only [Act.put, List.setIfInBounds_toArray, List.set_cons_zero, List.set_cons_succ]
      refine step1 7 (by kernel_rfl) rfl (fun K hK => ?_)
      refine storeR 66 (wl 8 v) (w.heap.size + 1 + 1 + 1) rfl (by rfl) rfl rfl (by rw [wl_length]; exact hH.2.1) (by rw [wl_length]; exact infoP) (wl_one 8 v) ?_
      simp only [Act.put]
      refine hK.out _ _ ⟨World.rangeAt_setCells_apart hH.1 _ _ _ (by left; omega), World.there_setCells hH.2.1 _ _ _, grown_setCells (by omega) _ _ hH.2.2⟩ (fun _ => ?_)
      clear hK K
      refine wpAnyH_done (by kernel_rfl) ?_ _
      refine NoPanic.normal ?_
      repeat go_step
      refine bodyPost_ret (v := wv 8 v) (resultP Tryd.results45 _ _ (w.heap.size + 1 + 1 + 1) v ?hp (World.rangeAt_setCells_same _ _ _ _ (by rw [wl_length]; exact hH.2.1))) ?hd ?_
      case hp => rfl
      case hd => rfl
      exact ⟨by rw [hv'.out], grown_setCells (by omega) _ _ hH.2.2⟩
end Go.Proofs.YteijccjdejjbjaaDoor
