import Derived.Test.YteijccjdejjbjaaDoorAp2
import Derived.Test.YteijccjdejjbjaaDoorAp3
namespace Go.Proofs.YteijccjdejjbjaaDoor
open Go.RowKit Go.Shelf ScalarNum

structure IX (w0 : World) (be bp x e v : Nat) (wr : World) : Prop where
  rx : wr.rangeAt w0.heap.size 0 (wl 4 x)
  tr : wr.there (w0.heap.size + 1) 0 4
  re : wr.rangeAt be 0 (wl 4 e)
  rv : wr.rangeAt bp 0 (wl 4 v)
  tv : wr.there bp 0 4
  l1 : w0.heap.size + 1 < be
  l2 : be < bp
  gw : Grown w0 wr
theorem IX.grown {w0 wr w' : World} {be bp x e v : Nat} (h : IX w0 be bp x e v wr) (hg : Grown wr w') : IX w0 be bp x e v w' :=
  ⟨rangeAt_grown h.rx hg, there_grown h.tr hg, rangeAt_grown h.re hg, rangeAt_grown h.rv hg, there_grown h.tv hg, h.l1, h.l2, grown_trans h.gw hg⟩
theorem IX.store {w0 wr : World} {be bp x e v : Nat} (h : IX w0 be bp x e v wr) (n : Nat) : IX w0 be bp x e n (wr.setCells bp 0 (wl 4 n)) := by
  have h1 := h.l1
  have h2 := h.l2
  exact ⟨World.rangeAt_setCells_apart h.rx _ _ _ (.inl (by omega)), World.there_setCells h.tr _ _ _, World.rangeAt_setCells_apart h.re _ _ _ (.inl (by omega)), World.rangeAt_setCells_same _ _ _ _ (by rw [wl_length]; exact h.tv), World.there_setCells h.tv _ _ _, h.l1, h.l2, grown_setCells (by omega) _ _ h.gw⟩

theorem bit_word (e j : Nat) : dg B e (j / 64) / 2 ^ (j % 64) % 2 = e / 2 ^ j % 2 := by
  unfold dg
  have hj : j = 64 * (j / 64) + j % 64 := by omega
  have hr : j % 64 < 64 := Nat.mod_lt _ (by decide)
  generalize j / 64 = k at *
  generalize j % 64 = r at *
  subst hj
  rw [show B ^ k = 2 ^ (64 * k) from by rw [show B = 2 ^ 64 from by decide, ← Nat.pow_mul], Nat.pow_add, ← Nat.div_div_eq_div_mul]
  generalize e / 2 ^ (64 * k) = y
  obtain ⟨s, hs⟩ : ∃ s, 64 = r + (s + 1) := ⟨63 - r, by omega⟩
  rw [show B = 2 ^ r * 2 ^ (s + 1) from by rw [← Nat.pow_add, ← hs]]
  rw [Nat.mod_mul_right_div_self, Nat.pow_succ, Nat.mul_comm (2 ^ s) 2, Nat.mod_mul_right_mod]

theorem pow_bit (e i : Nat) (hi : i < 253) : e / 2 ^ (253 - (i + 1)) = e / 2 ^ (253 - i) * 2 + e / 2 ^ (252 - i) % 2 := by
  have h1 : 253 - (i + 1) = 252 - i := by omega
  have h2 : 253 - i = 252 - i + 1 := by omega
  rw [h1, h2, Nat.pow_succ, ← Nat.div_div_eq_div_mul]
  omega

theorem sq_pow {v z x n : Nat} (h : v = x ^ n % L) (hz : z = (v * v + 0) % L) : z = x ^ (n * 2) % L := by
  rw [hz, h, Nat.add_zero, ← Nat.mul_mod, ← Nat.pow_add, Nat.mul_two]
theorem mul_pow1 {v z x n : Nat} (h : v = x ^ n % L) (hz : z = (v * x + 0) % L) : z = x ^ (n + 1) % L := by
  rw [hz, h, Nat.add_zero, Nat.mod_mul_mod, ← Nat.pow_succ]

theorem and_one (q : Nat) (hq : q < B) : bits .and .u64 (q : Int) 1 = ((q % 2 : Nat) : Int) := by
  have := bits_and_u64_nat q 1 hq (by omega)
  have e : q &&& 1 = q % 2 := Nat.and_two_pow_sub_one_eq_mod q 1
  rw [e] at this
  exact this

set_option maxRecDepth 100000 in
set_option maxHeartbeats 4000000 in
theorem inverse_num (x e : Nat) (hx : x < M) (he : Hid (e = L - 2)) (w : World) (hT : Tab w) : Calls Tryd.prog 50 #[wv 4 x] w fun r w' => r = .returned (wv 4 (x ^ e % L)) ∧ Grown w w' := by
  rw [wv]
  have h0 := alloc2 w 62 62 (wl 4 x) #[Value.int IntKind.u64 0, Value.int IntKind.u64 0, Value.int IntKind.u64 0, Value.int IntKind.u64 0]
  have HT := Hid.of hT
  have hsz := hT.lt
  clear hT
  go_enter Tryd.func50, Tryd.ntmps50
  go_wp2_with fail
  generalize ((w.alloc (Obj.cells (wl 4 x).toArray 62)).alloc (Obj.cells #[Value.int IntKind.u64 0, Value.int IntKind.u64 0, Value.int IntKind.u64 0, Value.int IntKind.u64 0] 62)) = W0 at *
  obtain ⟨r0, t0, t1, g0⟩ := h0
  have HX := Hid.of (And.intro r0 (And.intro (show W0.there (w.heap.size + 1) 0 4 from t1) g0))
  clear r0 t0 t1 g0
  rw [show Value.agg #[Value.int IntKind.u64 2, Value.int IntKind.u64 0, Value.int IntKind.u64 0, Value.int IntKind.u64 0] = wv 4 2 from rfl]
  refine Calls.mono (negated_num 2 (by decide) _ (HT.out.grown HX.out.2.2)) ?_
  rintro r w1 ⟨rfl, g1⟩
  rw [show (L - 2) % L = e from by rw [he.out]; decide]
  have HX1 := Hid.of (And.intro (rangeAt_grown HX.out.1 g1) (And.intro (there_grown HX.out.2.1 g1) (grown_trans HX.out.2.2 g1)))
  have hl1 : w.heap.size + 1 < w1.heap.size := there_lt HX1.out.2.1 (by decide)
  clear HX g1
  dsimp only
  go_wp2_with (with_reducible show wpList _ _ _ ({ dst := _, op := Op.store 62 _ _, type := _, pos := _, after := _, guard := _ } :: _) _ _; refine Shut.out ?_)
  show wpList _ _ _ _ _ _
  refine wpList_store_newN e (by simp) rfl rfl rfl rfl (fun w2 hg2 hr2 ht2 => ?_)
  simp only [Act.put]
  apply wpList_nil
  have HX2 := Hid.of (And.intro (rangeAt_grown HX1.out.1 hg2) (And.intro (there_grown HX1.out.2.1 hg2) (And.intro (grown_trans HX1.out.2.2 hg2) (And.intro hr2 ht2))))
  have hl2 : w1.heap.size < w2.heap.size := there_lt ht2 (by decide)
  clear HX1 hg2 hr2 ht2
  generalize w1.heap.size = be at *
  go_wp2_with (with_reducible show wpList _ _ _ ({ dst := _, op := Op.store 62 _ _, type := _, pos := _, after := _, guard := _ } :: _) _ _; refine Shut.out ?_)
  show wpList _ _ _ _ _ _
  refine wpList_store_newN 1 (by simp) rfl rfl rfl rfl (fun w3 hg3 hr3 ht3 => ?_)
  simp only [Act.put]
  apply wpList_nil
  have H0 := Hid.of (show IX w be w2.heap.size x e 1 w3 from ⟨rangeAt_grown HX2.out.1 hg3, there_grown HX2.out.2.1 hg3, rangeAt_grown HX2.out.2.2.2.1 hg3, hr3, ht3, hl1, hl2, grown_trans HX2.out.2.2.1 hg3⟩)
  clear HX2 hg3 hr3 ht3
  generalize w2.heap.size = bp at *
  go_wp2
  go_loopw [10] (fun v10 wr => ∃ i v : Nat, v10 = .int .i64 (i : Int) ∧ i ≤ 253 ∧ v = x ^ (e / 2 ^ (253 - i)) % L ∧ IX w be bp x e v wr) (fun v10 _ => 253 - (intOf v10).toNat)
  case atStart =>
    refine ⟨0, 1, rfl, by decide, ?_, H0.out⟩
    rw [he.out, show (L - 2) / 2 ^ (253 - 0) = 0 from by decide, Nat.pow_zero]
    decide
  case round =>
    obtain ⟨i, v, rfl, hi, hv, hI⟩ := hrel
    clear H0
    have HV := Hid.of hv
    have hvM : v < M := by rw [hv]; exact modL_ltM _
    clear hv
    have HI := Hid.of hI
    clear hI
    by_cases hlt : i < 253
    · have b1 : (i : Int) < 253 := by omega
      go_wp2_with (with_reducible show wpList _ _ _ ({ dst := _, op := Op.load 62 _, type := _, pos := _, after := _, guard := _ } :: _) _ _; refine Shut.out ?_)
      show wpList _ _ _ _ _ _
      refine wpList_loadN rfl _ rfl bp rfl v HI.out.rv ?_
      simp only [Act.put, List.setIfInBounds_toArray, List.set_cons_zero, List.set_cons_succ]
      refine wpList_loadN rfl _ rfl bp rfl v HI.out.rv ?_
      simp only [Act.put, List.setIfInBounds_toArray, List.set_cons_zero, List.set_cons_succ]
      go_wp2_with fail
      rw [show Value.agg #[Value.int IntKind.u64 0, Value.int IntKind.u64 0, Value.int IntKind.u64 0, Value.int IntKind.u64 0] = wv 4 0 from rfl]
      refine Calls.mono (times_num v v 0 hvM hvM (by decide) _) ?_
      rintro r w4 ⟨rfl, g4⟩
      dsimp only
      go_wp2_with fail
      refine Calls.mono (prod_num (v * v + 0) (timesM hvM hvM (by decide)) _ ((HT.out.grown HI.out.gw).grown g4)) ?_
      rintro r w5 ⟨rfl, g5⟩
      have HI2 := Hid.of (HI.out.grown (grown_trans g4 g5))
      clear HI g4 g5
      obtain ⟨z, hz⟩ : ∃ z, z = (v * v + 0) % L := ⟨_, rfl⟩
      rw [← hz]
      have HZ := Hid.of (sq_pow HV.out hz)
      have hzM : z < M := by rw [hz]; exact modL_ltM _
      clear HV hz
      dsimp only
      go_wp2_with (with_reducible show wpList _ _ _ ({ dst := _, op := Op.store 62 _ _, type := _, pos := _, after := _, guard := _ } :: _) _ _; refine Shut.out ?_)
      show wpList _ _ _ _ _ _
      refine wpList_storeN rfl _ _ rfl bp z rfl rfl HI2.out.tv ?_
      simp only [Act.put]
      apply wpList_nil
      have HI3 := Hid.of (HI2.out.store z)
      clear HI2
      generalize w5.setCells bp 0 (wl 4 z) = w6 at *
      have d1 : w6.cell? ⟨be, (252 - i) / 64, none⟩ = some (.int .u64 (dg B e ((252 - i) / 64) : Nat)) := by
        have := HI3.out.re ((252 - i) / 64) _ (wl_get 4 e _ (by omega)); rwa [Nat.zero_add] at this
      have l1 := bit_word e (252 - i)
      have hw1 : dg B e ((252 - i) / 64) < B := dg_lt B_pos
      have hw2 : dg B e ((252 - i) / 64) / 2 ^ ((252 - i) % 64) < B := Nat.lt_of_le_of_lt (Nat.div_le_self _ _) hw1
      have ha := and_one _ hw2
      rw [l1] at ha
      have hb2 := pow_bit e i hlt
      generalize dg B e ((252 - i) / 64) = wd at *
      have ha' : bits .and .u64 ((wd : Int) / 2 ^ ((252 - i) % 64)) 1 = ((e / 2 ^ (252 - i) % 2 : Nat) : Int) := by
        have := ha
        simpa using this
      clear ha
      have hbit : e / 2 ^ (252 - i) % 2 = 0 ∨ e / 2 ^ (252 - i) % 2 = 1 := by omega
      generalize e / 2 ^ (252 - i) % 2 = bit at *
      have HB := Hid.of hb2
      clear hb2 l1 hw1 hw2
      have e1 : (252 : Int) - (i : Int) = ((252 - i : Nat) : Int) := by omega
      have e2 : (252 - i : Nat) < 253 := by omega
      generalize 252 - i = j at *
      have b2 : (j : Int) < 253 := by omega
      rcases hbit with rfl | rfl
      · go_wp2
        go_roundw
        case rel =>
          refine ⟨i + 1, z, by go_num, by omega, ?_, HI3.out⟩
          rw [HB.out, Nat.add_zero]; exact HZ.out
        case measure => simp [intOf]; omega
      · skip
        go_wp2_with (with_reducible show wpList _ _ _ ({ dst := _, op := Op.load 62 _, type := _, pos := _, after := _, guard := _ } :: _) _ _; refine Shut.out ?_)
        show wpList _ _ _ _ _ _
        refine wpList_loadN rfl _ rfl bp rfl z HI3.out.rv ?_
        simp only [Act.put, List.setIfInBounds_toArray, List.set_cons_zero, List.set_cons_succ]
        refine wpList_loadN rfl _ rfl w.heap.size rfl x HI3.out.rx ?_
        simp only [Act.put, List.setIfInBounds_toArray, List.set_cons_zero, List.set_cons_succ]
        go_wp2_with fail
        rw [show Value.agg #[Value.int IntKind.u64 0, Value.int IntKind.u64 0, Value.int IntKind.u64 0, Value.int IntKind.u64 0] = wv 4 0 from rfl]
        refine Calls.mono (times_num z x 0 hzM hx (by decide) _) ?_
        rintro r w7 ⟨rfl, g7⟩
        dsimp only
        go_wp2_with fail
        refine Calls.mono (prod_num (z * x + 0) (timesM hzM hx (by decide)) _ ((HT.out.grown HI3.out.gw).grown g7)) ?_
        rintro r w8 ⟨rfl, g8⟩
        have HI4 := Hid.of (HI3.out.grown (grown_trans g7 g8))
        clear HI3 g7 g8 d1
        obtain ⟨z2, hz2⟩ : ∃ z2, z2 = (z * x + 0) % L := ⟨_, rfl⟩
        rw [← hz2]
        have HZ2 := Hid.of (mul_pow1 HZ.out hz2)
        clear HZ hz2
        dsimp only
        go_wp2_with (with_reducible show wpList _ _ _ ({ dst := _, op := Op.store 62 _ _, type := _, pos := _, after := _, guard := _ } :: _) _ _; refine Shut.out ?_)
        show wpList _ _ _ _ _ _
        refine wpList_storeN rfl _ _ rfl bp z2 rfl rfl HI4.out.tv ?_
        simp only [Act.put]
        apply wpList_nil
        have HI5 := Hid.of (HI4.out.store z2)
        clear HI4
        generalize w8.setCells bp 0 (wl 4 z2) = w9 at *
        go_wp2
        go_roundw
        case rel =>
          refine ⟨i + 1, z2, by go_num, by omega, ?_, HI5.out⟩
          rw [HB.out]; exact HZ2.out
        case measure => simp [intOf]; omega
    · have hi3 : i = 253 := by omega
      subst hi3
      have ev : v = x ^ e % L := by rw [HV.out, Nat.sub_self, Nat.pow_zero, Nat.div_one]
      subst ev
      clear HV hi hlt HT
      go_wp2_with (with_reducible show wpList _ _ _ ({ dst := _, op := Op.load 62 _, type := _, pos := _, after := _, guard := _ } :: _) _ _; refine Shut.out ?_)
      show wpList _ _ _ _ _ _
      refine wpList_loadN rfl _ rfl (bp) rfl (x ^ e % L) (HI.out.rv) ?_
      simp only [Act.put, List.setIfInBounds_toArray, List.set_cons_zero, List.set_cons_succ]
      refine wpList_storeN rfl _ _ rfl (w.heap.size + 1) (x ^ e % L) rfl rfl (HI.out.tr) ?_
      simp only [Act.put]
      apply wpList_nil
      repeat go_step
      refine bodyPost_ret (v := wv 4 (x ^ e % L)) (resultN Tryd.results50 _ _ (w.heap.size + 1) _ ?hp (World.rangeAt_setCells_same _ _ _ _ (by rw [wl_length]; exact HI.out.tr))) ?hd ?_
      case hp => rfl
      case hd => rfl
      exact ⟨rfl, grown_setCells (by omega) _ _ (HI.out.gw)⟩

/-- the inverse -/
def sinv (x : Nat) : Nat := x ^ (L - 2) % L
theorem sinv_lt (x : Nat) : sinv x < M := modL_ltM _
theorem sinv_ltL (x : Nat) : sinv x < L := modL_lt _

set_option maxRecDepth 100000 in
set_option maxHeartbeats 1000000 in
theorem Invert_any (x e : Nat) (hx : x < M) (he : Hid (e = L - 2)) (w : World) (hT : Tab w) : Calls Tryd.prog 28 #[yv 32 x] w fun r w' => r = .returned (yv 32 (x ^ e % L)) ∧ Grown w w' := by
  have h0 := alloc2 w 23 23 (yl 32 x) (yl 32 0).toArray
  rw [show (yl 32 0).toArray.size = 32 from rfl] at h0
  have HT := Hid.of hT
  clear hT
  obtain ⟨z, hz⟩ : ∃ z, z = x ^ e % L := ⟨_, rfl⟩
  rw [← hz]
  have hzM : z < M := by rw [hz]; exact modL_ltM _
  have HZ := Hid.of hz
  clear hz
  rw [yv]
  go_enter Tryd.func28, Tryd.ntmps28
  go_wp2_with (with_reducible show wpList _ _ _ ({ dst := _, op := Op.load 23 _, type := _, pos := _, after := _, guard := _ } :: _) _ _; refine Shut.out ?_)
  show wpList _ _ _ _ _ _
  rw [← yl32_zero]
  generalize ((w.alloc (.cells (yl 32 x).toArray 23)).alloc (.cells (yl 32 0).toArray 23)) = W0 at *
  have H0 := Hid.of h0
  clear h0
  refine wpList_load32 rfl _ rfl w.heap.size rfl x H0.out.1 ?_
  simp only [Act.put, List.setIfInBounds_toArray, List.set_cons_zero, List.set_cons_succ]
  go_wp2_with fail
  refine Calls.mono (load_num x hx _) ?_
  rintro r w1 ⟨rfl, g1⟩
  dsimp only
  go_wp2_with fail
  refine Calls.mono (inverse_num x e hx he _ ((HT.out.grown H0.out.2.2.2).grown g1)) ?_
  rintro r w2 ⟨rfl, g2⟩
  dsimp only
  rw [← HZ.out]
  go_wp2_with fail
  refine Calls.mono (bytes_num z hzM _) ?_
  rintro r w4 ⟨rfl, g4⟩
  dsimp only
  have gg := grown_trans g1 (grown_trans g2 g4)
  have H1 := Hid.of (And.intro (there_grown H0.out.2.2.1 gg) (grown_trans H0.out.2.2.2 gg))
  clear H0 g1 g2 g4 gg
  go_wp2_with (with_reducible show wpList _ _ _ ({ dst := _, op := Op.store 23 _ _, type := _, pos := _, after := _, guard := _ } :: _) _ _; refine Shut.out ?_)
  show wpList _ _ _ _ _ _
  refine wpList_store32 rfl _ _ rfl (w.heap.size + 1) (z) rfl rfl (H1.out.1) ?_
  simp only [Act.put]
  apply wpList_nil
  repeat go_step
  refine bodyPost_ret (v := yv 32 (z)) (result32 Tryd.results28 _ _ (w.heap.size + 1) _ ?hp (World.rangeAt_setCells_same _ _ _ _ (by rw [yl_length]; exact H1.out.1))) ?hd ?_
  case hp => rfl
  case hd => rfl
  exact ⟨rfl, grown_setCells (by omega) _ _ (H1.out.2)⟩
theorem Invert_num (x : Nat) (hx : x < M) (w : World) (hT : Tab w) : Calls Tryd.prog 28 #[yv 32 x] w fun r w' => r = .returned (yv 32 (sinv x)) ∧ Grown w w' := Invert_any x (L - 2) hx rfl w hT
end Go.Proofs.YteijccjdejjbjaaDoor
