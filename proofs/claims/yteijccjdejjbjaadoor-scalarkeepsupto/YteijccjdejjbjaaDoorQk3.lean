import Derived.Test.YteijccjdejjbjaaDoorQk2
import Derived.Deep.WholeRow
namespace Go.Proofs.YteijccjdejjbjaaDoor
open Go.RowKit Go.Shelf ScalarNum

structure IX (w0 : World) (be bp x e v : Nat) (wr : World) : Prop where
  rx : wr.rangeAt w0.heap.size 0 (wl 4 x)
  tr : wr.there (w0.heap.size + 1) 0 4
  re : wr.rangeAt be 0 (wl 4 e)
  rv : wr.rangeAt bp 0 (wl 4 v)
  tv : wr.there bp 0 4
  l1 : w0.heap.size + 1 < be
  l2 : be < bp
  gw : Grown w0 wr
theorem IX.grown {w0 wr w' : World} {be bp x e v : Nat} (h : IX w0 be bp x e v wr) (hg : Grown wr w') : IX w0 be bp x e v w' :=
  ⟨rangeAt_grown h.rx hg, there_grown h.tr hg, rangeAt_grown h.re hg, rangeAt_grown h.rv hg, there_grown h.tv hg, h.l1, h.l2, grown_trans h.gw hg⟩
theorem IX.store {w0 wr : World} {be bp x e v : Nat} (h : IX w0 be bp x e v wr) (n : Nat) : IX w0 be bp x e n (wr.setCells bp 0 (wl 4 n)) := by
  have h1 := h.l1
  have h2 := h.l2
  exact ⟨World.rangeAt_setCells_apart h.rx _ _ _ (.inl (by omega)), World.there_setCells h.tr _ _ _, World.rangeAt_setCells_apart h.re _ _ _ (.inl (by omega)), World.rangeAt_setCells_same _ _ _ _ (by rw [wl_length]; exact h.tv), World.there_setCells h.tv _ _ _, h.l1, h.l2, grown_setCells (by omega) _ _ h.gw⟩

theorem bit_word (e j : Nat) : dg B e (j / 64) / 2 ^ (j % 64) % 2 = e / 2 ^ j % 2 := by
  unfold dg
  have hj : j = 64 * (j / 64) + j % 64 := by omega
  have hr : j % 64 < 64 := Nat.mod_lt _ (by decide)
  generalize j / 64 = k at *
  generalize j % 64 = r at *
  subst hj
  rw [show B ^ k = 2 ^ (64 * k) from by rw [show B = 2 ^ 64 from by decide, ← Nat.pow_mul], Nat.pow_add, ← Nat.div_div_eq_div_mul]
  generalize e / 2 ^ (64 * k) = y
  obtain ⟨s, hs⟩ : ∃ s, 64 = r + (s + 1) := ⟨63 - r, by omega⟩
  rw [show B = 2 ^ r * 2 ^ (s + 1) from by rw [← Nat.pow_add, ← hs]]
  rw [Nat.mod_mul_right_div_self, Nat.pow_succ, Nat.mul_comm (2 ^ s) 2, Nat.mod_mul_right_mod]

theorem pow_bit (e i : Nat) (hi : i < 253) : e / 2 ^ (253 - (i + 1)) = e / 2 ^ (253 - i) * 2 + e / 2 ^ (252 - i) % 2 := by
  have h1 : 253 - (i + 1) = 252 - i := by omega
  have h2 : 253 - i = 252 - i + 1 := by omega
  rw [h1, h2, Nat.pow_succ, ← Nat.div_div_eq_div_mul]
  omega

theorem sq_pow {v z x n : Nat} (h : v = x ^ n % L) (hz : z = (v * v + 0) % L) : z = x ^ (n * 2) % L := by
  rw [hz, h, Nat.add_zero, ← Nat.mul_mod, ← Nat.pow_add, Nat.mul_two]
theorem mul_pow1 {v z x n : Nat} (h : v = x ^ n % L) (hz : z = (v * x + 0) % L) : z = x ^ (n + 1) % L := by
  rw [hz, h, Nat.add_zero, Nat.mod_mul_mod, ← Nat.pow_succ]

theorem and_one (q : Nat) (hq : q < B) : bits .and .u64 (q : Int) 1 = ((q % 2 : Nat) : Int) := by
  have := bits_and_u64_nat q 1 hq (by omega)
  have e : q &&& 1 = q % 2 := Nat.and_two_pow_sub_one_eq_mod q 1
  rw [e] at this
  exact this

set_option maxRecDepth 100000 in
set_option maxHeartbeats 4000000 in
theorem inverse_num (x e : Nat) (hx : x < M) (he : Hid (e = L - 2)) (w : World) (hT : Tab w) : Calls Tryd.prog 50 #[wv 4 x] w fun r w' => r = .returned (wv 4 (x ^ e % L)) ∧ Grown w w' := by
  rw [wv]
  have h0 := alloc2 w 62 62 (wl 4 x) #[Value.int IntKind.u64 0, Value.int IntKind.u64 0, Value.int IntKind.u64 0, Value.int IntKind.u64 0]
  have HT := Hid.of hT
  have hsz := hT.lt
  clear hT
  go_enter Tryd.func50, Tryd.ntmps50
  go_wp2_with fail
  generalize ((w.alloc (Obj.cells (wl 4 x).toArray 62)).alloc (Obj.cells #[Value.int IntKind.u64 0, Value.int IntKind.u64 0, Value.int IntKind.u64 0, Value.int IntKind.u64 0] 62)) = W0 at *
  obtain ⟨r0, t0, t1, g0⟩ := h0
  have HX := Hid.of (And.intro r0 (And.intro (show W0.there (w.heap.size + 1) 0 4 from t1) g0))
  clear r0 t0 t1 g0
  rw [show Value.agg #[Value.int IntKind.u64 2, Value.int IntKind.u64 0, Value.int IntKind.u64 0, Value.int IntKind.u64 0] = wv 4 2 from rfl]
  refine Calls.mono (negated_num 2 (by decide) _ (HT.out.grown HX.out.2.2)) ?_
  rintro r w1 ⟨rfl, g1⟩
  rw [show (L - 2) % L = e from by rw [he.out]; decide]
  have HX1 := Hid.of (And.intro (rangeAt_grown HX.out.1 g1) (And.intro (there_grown HX.out.2.1 g1) (grown_trans HX.out.2.2 g1)))
  have hl1 : w.heap.size + 1 < w1.heap.size := there_lt HX1.out.2.1 (by decide)
  clear HX g1
  dsimp only
  go_wp2_with (with_reducible show wpList _ _ _ ({ dst := _, op := Op.store 62 _ _, type := _, pos := _, after := _, guard := _ } :: _) _ _; refine Shut.out ?_)
  show wpList _ _ _ _ _ _
  refine wpList_store_newN e (by simp) rfl rfl rfl rfl (fun w2 hg2 hr2 ht2 => ?_)
  simp only [Act.put]
  apply wpList_nil
  have HX2 := Hid.of (And.intro (rangeAt_grown HX1.out.1 hg2) (And.intro (there_grown HX1.out.2.1 hg2) (And.intro (grown_trans HX1.out.2.2 hg2) (And.intro hr2 ht2))))
  have hl2 : w1.heap.size < w2.heap.size := there_lt ht2 (by decide)
  clear HX1 hg2 hr2 ht2
  generalize w1.heap.size = be at *
  go_wp2_with (with_reducible show wpList _ _ _ ({ dst := _, op := Op.store 62 _ _, type := _, pos := _, after := _, guard := _ } :: _) _ _; refine Shut.out ?_)
  show wpList _ _ _ _ _ _
  refine wpList_store_newN 1 (by simp) rfl rfl rfl rfl (fun w3 hg3 hr3 ht3 => ?_)
  simp only [Act.put]
  apply wpList_nil
  have H0 := Hid.of (show IX w be w2.heap.size x e 1 w3 from ⟨rangeAt_grown HX2.out.1 hg3, there_grown HX2.out.2.1 hg3, rangeAt_grown HX2.out.2.2.2.1 hg3, hr3, ht3, hl1, hl2, grown_trans HX2.out.2.2.1 hg3⟩)
  clear HX2 hg3 hr3 ht3
  generalize w2.heap.size = bp at *
  go_wp2
  go_loopw [10] (fun v10 wr => ∃ i v : Nat, v10 = .int .i64 (i : Int) ∧ i ≤ 253 ∧ v = x ^ (e / 2 ^ (253 - i)) % L ∧ IX w be bp x e v wr) (fun v10 _ => 253 - (intOf v10).toNat)
  case atStart =>
    refine ⟨0, 1, rfl, by decide, ?_, H0.out⟩
    rw [he.out, show (L - 2) / 2 ^ (253 - 0) = 0 from by decide, Nat.pow_zero]
    decide
  case round =>
    obtain ⟨i, v, rfl, hi, hv, hI⟩ := hrel
    clear H0
    have HV := Hid.of hv
    have hvM : v < M := by rw [hv]; exact modL_ltM _
    clear hv
    have HI := Hid.of hI
    clear hI
    by_cases hlt : i < 253
    · have b1 : (i : Int) < 253 := by omega
      go_wp2_with (with_reducible show wpList _ _ _ ({ dst := _, op := Op.load 62 _, type := _, pos := _, after := _, guard := _ } :: _) _ _; refine Shut.out ?_)
      show wpList _ _ _ _ _ _
      refine wpList_loadN rfl _ rfl bp rfl v HI.out.rv ?_
      simp only [Act.put, List.setIfInBounds_toArray, List.set_cons_zero, List.set_cons_succ]
      refine wpList_loadN rfl _ rfl bp rfl v HI.out.rv ?_
      simp only [Act.put, List.setIfInBounds_toArray, List.set_cons_zero, List.set_cons_succ]
      go_wp2_with fail
      rw [show Value.agg #[Value.int IntKind.u64 0, Value.int IntKind.u64 0, Value.int IntKind.u64 0, Value.int IntKind.u64 0] = wv 4 0 from rfl]
      refine Calls.mono (times_num v v 0 hvM hvM (by decide) _) ?_
      rintro r w4 ⟨rfl, g4⟩
      dsimp only
      go_wp2_with fail
      refine Calls.mono (prod_num (v * v + 0) (timesM hvM hvM (by decide)) _ ((HT.out.grown HI.out.gw).grown g4)) ?_
      rintro r w5 ⟨rfl, g5⟩
      have HI2 := Hid.of (HI.out.grown (grown_trans g4 g5))
      clear HI g4 g5
      obtain ⟨z, hz⟩ : ∃ z, z = (v * v + 0) % L := ⟨_, rfl⟩
      rw [← hz]
      have HZ := Hid.of (sq_pow HV.out hz)
      have hzM : z < M := by rw [hz]; exact modL_ltM _
      clear HV hz
      dsimp only
      go_wp2_with (with_reducible show wpList _ _ _ ({ dst := _, op := Op.store 62 _ _, type := _, pos := _, after := _, guard := _ } :: _) _ _; refine Shut.out ?_)
      show wpList _ _ _ _ _ _
      refine wpList_storeN rfl _ _ rfl bp z rfl rfl HI2.out.tv ?_
      simp only [Act.put]
      apply wpList_nil
      have HI3 := Hid.of (HI2.out.store z)
      clear HI2
      generalize w5.setCells bp 0 (wl 4 z) = w6 at *
      have d1 : w6.cell? ⟨be, (252 - i) / 64, none⟩ = some (.int .u64 (dg B e ((252 - i) / 64) : Nat)) := by
        have := HI3.out.re ((252 - i) / 64) _ (wl_get 4 e _ (by omega)); rwa [Nat.zero_add] at this
      have l1 := bit_word e (252 - i)
      have hw1 : dg B e ((252 - i) / 64) < B := dg_lt B_pos
      have hw2 : dg B e ((252 - i) / 64) / 2 ^ ((252 - i) % 64) < B := Nat.lt_of_le_of_lt (Nat.div_le_self _ _) hw1
      have ha := and_one _ hw2
      rw [l1] at ha
      have hb2 := pow_bit e i hlt
      generalize dg B e ((252 - i) / 64) = wd at *
      have ha' : bits .and .u64 ((wd : Int) / 2 ^ ((252 - i) % 64)) 1 = ((e / 2 ^ (252 - i) % 2 : Nat) : Int) := by
        have := ha
        simpa using this
      clear ha
      have hbit : e / 2 ^ (252 - i) % 2 = 0 ∨ e / 2 ^ (252 - i) % 2 = 1 := by omega
      generalize e / 2 ^ (252 - i) % 2 = bit at *
      have HB := Hid.of hb2
      clear hb2 l1 hw1 hw2
      have e1 : (252 : Int) - (i : Int) = ((252 - i : Nat) : Int) := by omega
      have e2 : (252 - i : Nat) < 253 := by omega
      generalize 252 - i = j at *
      have b2 : (j : Int) < 253 := by omega
      rcases hbit with rfl | rfl
      · go_wp2
        go_roundw
        case rel =>
          refine ⟨i + 1, z, by go_num, by omega, ?_, HI3.out⟩
          rw [HB.out, Nat.add_zero]; exact HZ.out
        case measure => simp [intOf]; omega
      · skip
        go_wp2_with (with_reducible show wpList _ _ _ ({ dst := _, op := Op.load 62 _, type := _, pos := _, after := _, guard := _ } :: _) _ _; refine Shut.out ?_)
        show wpList _ _ _ _ _ _
        refine wpList_loadN rfl _ rfl bp rfl z HI3.out.rv ?_
        simp only [Act.put, List.setIfInBounds_toArray, List.set_cons_zero, List.set_cons_succ]
        refine wpList_loadN rfl _ rfl w.heap.size rfl x HI3.out.rx ?_
        simp only [Act.put, List.setIfInBounds_toArray, List.set_cons_zero, List.set_cons_succ]
        go_wp2_with fail
        rw [show Value.agg #[Value.int IntKind.u64 0, Value.int IntKind.u64 0, Value.int IntKind.u64 0, Value.int IntKind.u64 0] = wv 4 0 from rfl]
        refine Calls.mono (times_num z x 0 hzM hx (by decide) _) ?_
        rintro r w7 ⟨rfl, g7⟩
        dsimp only
        go_wp2_with fail
        refine Calls.mono (prod_num (z * x + 0) (timesM hzM hx (by decide)) _ ((HT.out.grown HI3.out.gw).grown g7)) ?_
        rintro r w8 ⟨rfl, g8⟩
        have HI4 := Hid.of (HI3.out.grown (grown_trans g7 g8))
        clear HI3 g7 g8 d1
        obtain ⟨z2, hz2⟩ : ∃ z2, z2 = (z * x + 0) % L := ⟨_, rfl⟩
        rw [← hz2]
        have HZ2 := Hid.of (mul_pow1 HZ.out hz2)
        clear HZ hz2
        dsimp only
        go_wp2_with (with_reducible show wpList _ _ _ ({ dst := _, op := Op.store 62 _ _, type := _, pos := _, after := _, guard := _ } :: _) _ _; refine Shut.out ?_)
        show wpList _ _ _ _ _ _
        refine wpList_storeN rfl _ _ rfl bp z2 rfl rfl HI4.out.tv ?_
        simp only [Act.put]
        apply wpList_nil
        have HI5 := Hid.of (HI4.out.store z2)
        clear HI4
        generalize w8.setCells bp 0 (wl 4 z2) = w9 at *
        go_wp2
        go_roundw
        case rel =>
          refine ⟨i + 1, z2, by go_num, by omega, ?_, HI5.out⟩
          rw [HB.out]; exact HZ2.out
        case measure => simp [intOf]; omega
    · have hi3 : i = 253 := by omega
      subst hi3
      have ev : v = x ^ e % L := by rw [HV.out, Nat.sub_self, Nat.pow_zero, Nat.div_one]
      subst ev
      clear HV hi hlt HT
      go_wp2_with (with_reducible show wpList _ _ _ ({ dst := _, op := Op.load 62 _, type := _, pos := _, after := _, guard := _ } :: _) _ _; refine Shut.out ?_)
      show wpList _ _ _ _ _ _
      refine wpList_loadN rfl _ rfl (bp) rfl (x ^ e % L) (HI.out.rv) ?_
      simp only [Act.put, List.setIfInBounds_toArray, List.set_cons_zero, List.set_cons_succ]
      refine wpList_storeN rfl _ _ rfl (w.heap.size + 1) (x ^ e % L) rfl rfl (HI.out.tr) ?_
      simp only [Act.put]
      apply wpList_nil
      repeat go_step
      refine bodyPost_ret (v := wv 4 (x ^ e % L)) (resultN Tryd.results50 _ _ (w.heap.size + 1) _ ?hp (World.rangeAt_setCells_same _ _ _ _ (by rw [wl_length]; exact HI.out.tr))) ?hd ?_
      case hp => rfl
      case hd => rfl
      exact ⟨rfl, grown_setCells (by omega) _ _ (HI.out.gw)⟩

/-- the inverse -/
def sinv (x : Nat) : Nat := x ^ (L - 2) % L
theorem sinv_lt (x : Nat) : sinv x < M := modL_ltM _
theorem sinv_ltL (x : Nat) : sinv x < L := modL_lt _

set_option maxRecDepth 100000 in
set_option maxHeartbeats 1000000 in
theorem Invert_any (x e : Nat) (hx : x < M) (he : Hid (e = L - 2)) (w : World) (hT : Tab w) : Calls Tryd.prog 28 #[yv 32 x] w fun r w' => r = .returned (yv 32 (x ^ e % L)) ∧ Grown w w' := by
  have h0 := alloc2 w 23 23 (yl 32 x) (yl 32 0).toArray
  rw [show (yl 32 0).toArray.size = 32 from rfl] at h0
  have HT := Hid.of hT
  clear hT
  obtain ⟨z, hz⟩ : ∃ z, z = x ^ e % L := ⟨_, rfl⟩
  rw [← hz]
  have hzM : z < M := by rw [hz]; exact modL_ltM _
  have HZ := Hid.of hz
  clear hz
  rw [yv]
  go_enter Tryd.func28, Tryd.ntmps28
  go_wp2_with (with_reducible show wpList _ _ _ ({ dst := _, op := Op.load 23 _, type := _, pos := _, after := _, guard := _ } :: _) _ _; refine Shut.out ?_)
  show wpList _ _ _ _ _ _
  rw [← yl32_zero]
  generalize ((w.alloc (.cells (yl 32 x).toArray 23)).alloc (.cells (yl 32 0).toArray 23)) = W0 at *
  have H0 := Hid.of h0
  clear h0
  refine wpList_load32 rfl _ rfl w.heap.size rfl x H0.out.1 ?_
  simp only [Act.put, List.setIfInBounds_toArray, List.set_cons_zero, List.set_cons_succ]
  go_wp2_with fail
  refine Calls.mono (load_num x hx _) ?_
  rintro r w1 ⟨rfl, g1⟩
  dsimp only
  go_wp2_with fail
  refine Calls.mono (inverse_num x e hx he _ ((HT.out.grown H0.out.2.2.2).grown g1)) ?_
  rintro r w2 ⟨rfl, g2⟩
  dsimp only
  rw [← HZ.out]
  go_wp2_with fail
  refine Calls.mono (bytes_num z hzM _) ?_
  rintro r w4 ⟨rfl, g4⟩
  dsimp only
  have gg := grown_trans g1 (grown_trans g2 g4)
  have H1 := Hid.of (And.intro (there_grown H0.out.2.2.1 gg) (grown_trans H0.out.2.2.2 gg))
  clear H0 g1 g2 g4 gg
  go_wp2_with (with_reducible show wpList _ _ _ ({ dst := _, op := Op.store 23 _ _, type := _, pos := _, after := _, guard := _ } :: _) _ _; refine Shut.out ?_)
  show wpList _ _ _ _ _ _
  refine wpList_store32 rfl _ _ rfl (w.heap.size + 1) (z) rfl rfl (H1.out.1) ?_
  simp only [Act.put]
  apply wpList_nil
  repeat go_step
  refine bodyPost_ret (v := yv 32 (z)) (result32 Tryd.results28 _ _ (w.heap.size + 1) _ ?hp (World.rangeAt_setCells_same _ _ _ _ (by rw [yl_length]; exact H1.out.1))) ?hd ?_
  case hp => rfl
  case hd => rfl
  exact ⟨rfl, grown_setCells (by omega) _ _ (H1.out.2)⟩
theorem Invert_num (x : Nat) (hx : x < M) (w : World) (hT : Tab w) : Calls Tryd.prog 28 #[yv 32 x] w fun r w' => r = .returned (yv 32 (sinv x)) ∧ Grown w w' := Invert_any x (L - 2) hx rfl w hT
end Go.Proofs.YteijccjdejjbjaaDoor
namespace Go.Proofs.YteijccjdejjbjaaDoor
open Go.RowKit Go.Shelf ScalarNum

/-- which variables hold which numbers -/
def Holds (l : List (Nat × Nat)) (w : World) : Prop := ∀ q ∈ l, w.rangeAt q.1 0 (yl 32 q.2)

theorem Holds.grown {l : List (Nat × Nat)} {w w' : World} (h : Holds l w) (hg : Grown w w') : Holds l w' := fun q hq => rangeAt_grown (h q hq) hg
theorem Holds.cons {l : List (Nat × Nat)} {w : World} {b n : Nat} (h : Holds l w) (hb : w.rangeAt b 0 (yl 32 n)) : Holds ((b, n) :: l) w := by
  intro q hq
  rcases List.mem_cons.1 hq with rfl | hq
  · exact hb
  · exact h q hq
theorem Holds.nil (w : World) : Holds [] w := fun _ h => by cases h

theorem keepE {l : List (Nat × Nat)} {W w1 w2 : World} (h : Holds l w1 ∧ Grown W w1) (hg : Grown w1 w2) : Holds l w2 ∧ Grown W w2 := ⟨h.1.grown hg, grown_trans h.2 hg⟩

section
variable {ops : Array Oper} {Q : Exit → Act → World → Prop} {md : Region.Mode} {S : World → Prop} {fuel : Nat} {listed : Array Bool} {a : Act} {w : World}

theorem exec_neq_same {o : Oper} {ρ : Operand → Value} {x y : Operand} {t : TypeId} (ho : o.op = .binOp .neq 23 x y t) (m n : Nat) (hx : ρ x = yv 32 m) (hy : ρ y = yv 32 n) (hm : m < M) (hn : n < M) (e : m = n) (w : World) :
    (execOp ρ o).run Tryd.prog w = .ok (.value (.bool false)) w := by
  rw [exec_neq32 ho m n hx hy hm hn w, decide_eq_true e]; rfl
theorem exec_neq_apart {o : Oper} {ρ : Operand → Value} {x y : Operand} {t : TypeId} (ho : o.op = .binOp .neq 23 x y t) (m n : Nat) (hx : ρ x = yv 32 m) (hy : ρ y = yv 32 n) (hm : m < M) (hn : n < M) (e : ¬ m = n) (w : World) :
    (execOp ρ o).run Tryd.prog w = .ok (.value (.bool true)) w := by
  rw [exec_neq32 ho m n hx hy hm hn w, decide_eq_false e]; rfl
theorem exec_eql_same {o : Oper} {ρ : Operand → Value} {x y : Operand} {t : TypeId} (ho : o.op = .binOp .eql 23 x y t) (m n : Nat) (hx : ρ x = yv 32 m) (hy : ρ y = yv 32 n) (hm : m < M) (hn : n < M) (e : m = n) (w : World) :
    (execOp ρ o).run Tryd.prog w = .ok (.value (.bool true)) w := by
  rw [exec_eql32 ho m n hx hy hm hn w, decide_eq_true e]
theorem exec_eql_apart {o : Oper} {ρ : Operand → Value} {x y : Operand} {t : TypeId} (ho : o.op = .binOp .eql 23 x y t) (m n : Nat) (hx : ρ x = yv 32 m) (hy : ρ y = yv 32 n) (hm : m < M) (hn : n < M) (e : ¬ m = n) (w : World) :
    (execOp ρ o).run Tryd.prog w = .ok (.value (.bool false)) w := by
  rw [exec_eql32 ho m n hx hy hm hn w, decide_eq_false e]

/-- a new variable, and what is laid into it -/
theorem wpList_store_new {rest : List Oper} {o : Oper} {x y : Operand} {c : Array Value} (n : Nat) (hc : 32 ≤ c.size) (hgd : o.guard = none) (ho : o.op = .store 23 x y)
    (hx : a.eval x = .pointer (some ⟨w.heap.size, 0, none⟩)) (hy : a.eval y = yv 32 n)
    (h : ∀ w2, Grown w w2 → w2.rangeAt w.heap.size 0 (yl 32 n) → w2.there w.heap.size 0 32 → wpList Tryd.prog ops Q rest (a.put o.dst undef) w2) :
    wpList Tryd.prog ops Q (o :: rest) a (w.alloc (.cells c 23)) := by
  have ht := there_alloc_new w 23 c 32 hc
  refine wpList_store32 hgd x y ho w.heap.size n hx hy ht ?_
  exact h _ (grown_setCells (Nat.le_refl _) _ _ (Grown.alloc (Grown.refl _) _ _)) (World.rangeAt_setCells_same _ _ _ _ (by rw [yl_length]; exact ht)) (World.there_setCells ht _ _ _)
end

theorem bl_small (n : Int) (h0 : 0 ≤ n) (h1 : n < 256) : yl 32 n.toNat = (.int .u8 n) :: List.replicate 31 (.int .u8 0) := by
  obtain ⟨k, rfl⟩ := Int.eq_ofNat_of_zero_le h0
  have hk : k < 256 := by omega
  simp only [Int.toNat_natCast, yl, ds, dg, List.range, List.range.loop, List.map, List.replicate]
  simp only [List.cons.injEq, Value.int.injEq, true_and, and_true, Nat.reducePow]
  refine ⟨?_, ?_, ?_, ?_, ?_, ?_, ?_, ?_, ?_, ?_, ?_, ?_, ?_, ?_, ?_, ?_, ?_, ?_, ?_, ?_, ?_, ?_, ?_, ?_, ?_, ?_, ?_, ?_, ?_, ?_, ?_, ?_⟩ <;> omega

set_option maxHeartbeats 1000000 in
theorem number_any (n : Int) (h0 : 0 ≤ n) (h1 : n < 256) (w : World) :
    Calls Tryd.prog 18 #[.int .u8 n] w fun e w' => e = .returned (yv 32 n.toNat) ∧ Grown w w' := by
  have hb := bl_small n h0 h1
  go_enter Tryd.func18, Tryd.ntmps18
  go_wp2_with (with_reducible show wpList _ _ _ ({ dst := _, op := Op.store 23 _ _, type := _, pos := _, after := _, guard := _ } :: _) _ _; refine Shut.out ?_)
  show wpList _ _ _ _ _ _
  refine wpList_store_new n.toNat (by simp) rfl rfl rfl (by unfold yv; rw [hb]; rfl) (fun w2 hg hr _ => ?_)
  simp only [Act.put]
  apply wpList_nil
  repeat go_step
  refine bodyPost_ret (result32 Tryd.results18 _ _ w.heap.size _ ?hp hr) ?hd ?_
  case hp => rfl
  case hd => rfl
  exact ⟨rfl, hg⟩

theorem number_nat (n : Nat) (hn : n < 256) (i : Int) (hi : i = (n : Int)) (w : World) :
    Calls Tryd.prog 18 #[.int .u8 i] w fun e w' => e = .returned (yv 32 n) ∧ Grown w w' := by
  have := number_any i (by omega) (by omega) w
  rwa [show i.toNat = n by omega] at this

theorem params1 (w : World) (a : Nat) : Holds [(w.heap.size, a)] (w.alloc (.cells (yl 32 a).toArray 23)) ∧ Grown w (w.alloc (.cells (yl 32 a).toArray 23)) :=
  ⟨(Holds.nil _).cons (rangeAt_alloc_new w 23 (yl 32 a)), Grown.alloc (Grown.refl _) _ _⟩

theorem params2 (w : World) (a b : Nat) : Holds [(w.heap.size, a), (w.heap.size + 1, b)] ((w.alloc (.cells (yl 32 a).toArray 23)).alloc (.cells (yl 32 b).toArray 23)) ∧ Grown w ((w.alloc (.cells (yl 32 a).toArray 23)).alloc (.cells (yl 32 b).toArray 23)) := by
  have h1 := rangeAt_grown (rangeAt_alloc_new w 23 (yl 32 a)) (Grown.alloc (Grown.refl _) (yl 32 b).toArray 23)
  have h2 := rangeAt_alloc_new (w.alloc (.cells (yl 32 a).toArray 23)) 23 (yl 32 b)
  rw [show (w.alloc (.cells (yl 32 a).toArray 23)).heap.size = w.heap.size + 1 by simp] at h2
  exact ⟨((Holds.nil _).cons h2).cons h1, by go_grown⟩

theorem params3 (w : World) (a b c : Nat) : Holds [(w.heap.size, a), (w.heap.size + 1, b), (w.heap.size + 1 + 1, c)] (((w.alloc (.cells (yl 32 a).toArray 23)).alloc (.cells (yl 32 b).toArray 23)).alloc (.cells (yl 32 c).toArray 23)) ∧
    Grown w (((w.alloc (.cells (yl 32 a).toArray 23)).alloc (.cells (yl 32 b).toArray 23)).alloc (.cells (yl 32 c).toArray 23)) := by
  obtain ⟨h, _⟩ := params2 w a b
  have h1 := h.grown (Grown.alloc (Grown.refl _) (yl 32 c).toArray 23)
  have h2 := rangeAt_alloc_new ((w.alloc (.cells (yl 32 a).toArray 23)).alloc (.cells (yl 32 b).toArray 23)) 23 (yl 32 c)
  rw [show ((w.alloc (.cells (yl 32 a).toArray 23)).alloc (.cells (yl 32 b).toArray 23)).heap.size = w.heap.size + 1 + 1 by simp] at h2
  exact ⟨(((Holds.nil _).cons h2).cons (h1 _ (.tail _ (.head _)))).cons (h1 _ (.head _)), by go_grown⟩

theorem zero32 : (∀ w, (zeroValue 23).run Tryd.prog w = .ok (yv 32 0) w) ∧ (Tryd.prog.info? 23).map (·.size) = some 32 :=
  zero_of_info (P := Tryd.prog) (t := 23) (v := yv 32 0) (n := 32) (by kernel_rfl)

section
variable {ops : Array Oper} {Q : Exit → Act → World → Prop} {md : Region.Mode} {S : World → Prop} {fuel : Nat} {listed : Array Bool} {a : Act} {w : World}

theorem run_alloc32 (w : World) (old : Value) : (Instr.alloc 23 true old).run Tryd.prog w = .ok (.pointer (some ⟨w.heap.size, 0, none⟩)) (w.alloc (.cells (yl 32 0).toArray 23)) := by
  have h1 := zero32.1
  unfold yv at h1
  have hi := info32
  simp [Instr.alloc, h1, go_sem]

/-- a new variable in a region that draws -/
theorem alloc_op {o : Oper} {K : Act → World → Prop} (ho : o.op = .alloc 23) (hw : Region.wanted o (yielded ops a.tmps) = true)
    (h : ∀ w2, Grown w w2 → w2.there w.heap.size 0 32 → K (a.put o.dst (.pointer (some ⟨w.heap.size, 0, none⟩))) w2) :
    if Region.wanted o (yielded ops a.tmps) = true then Oper.wp Tryd.prog o a w K Q else K (a.put o.dst undef) w := by
  rw [if_pos hw]
  unfold Oper.wp execOp
  simp only [ho, Sem.run_bind, run_alloc32, Result.andThen_ok, Sem.run_pure]
  exact h _ (Grown.alloc (Grown.refl _) _ _) (there_alloc_new w 23 _ 32 (by simp [yl_length]))

/-- a store into a new variable, in a region that draws -/
theorem store_op {o : Oper} {K : Act → World → Prop} {W0 : World} (n : Nat) {x y : Operand} (ho : o.op = .store 23 x y) (hw : Region.wanted o (yielded ops a.tmps) = true)
    (hx : a.eval x = .pointer (some ⟨W0.heap.size, 0, none⟩)) (hy : a.eval y = yv 32 n) (ht : w.there W0.heap.size 0 32) (hA : Grown W0 w)
    (h : ∀ w2, Grown W0 w2 → w2.rangeAt W0.heap.size 0 (yl 32 n) → K (a.put o.dst undef) w2) :
    if Region.wanted o (yielded ops a.tmps) = true then Oper.wp Tryd.prog o a w K Q else K (a.put o.dst undef) w :=
  store32 n W0.heap.size ho hw hx hy ht (h _ (grown_setCells (Nat.le_refl _) _ _ hA) (World.rangeAt_setCells_same _ _ _ _ (by rw [yl_length]; exact ht)))

end
end Go.Proofs.YteijccjdejjbjaaDoor
namespace Go.Proofs.YteijccjdejjbjaaDoor
open Go.RowKit Go.Shelf ScalarNum

theorem less_step {x y i : Nat} (h : x / 256 ^ (i + 1) = y / 256 ^ (i + 1)) : (x / 256 ^ i % 256 = y / 256 ^ i % 256 → x / 256 ^ i = y / 256 ^ i) ∧ (x / 256 ^ i % 256 ≠ y / 256 ^ i % 256 → (x / 256 ^ i % 256 < y / 256 ^ i % 256 ↔ x < y)) := by
  have e : ∀ z, z / 256 ^ (i + 1) = z / 256 ^ i / 256 := fun z => by rw [Nat.pow_succ, Nat.div_div_eq_div_mul]
  rw [e, e] at h
  refine ⟨fun h1 => by omega, fun h1 => ?_⟩
  have hp : 0 < 256 ^ i := Nat.pow_pos (by decide)
  have hlt : x / 256 ^ i % 256 < y / 256 ^ i % 256 ↔ x / 256 ^ i < y / 256 ^ i := by omega
  rw [hlt]
  have hne : x / 256 ^ i ≠ y / 256 ^ i := by omega
  constructor
  · intro h2
    apply Nat.lt_of_not_le
    intro h3
    have := Nat.div_le_div_right (c := 256 ^ i) h3
    omega
  · intro h2
    have := Nat.div_le_div_right (c := 256 ^ i) (Nat.le_of_lt h2)
    omega

set_option maxHeartbeats 1000000 in
theorem less_any (x y : Nat) (hx : x < M) (hy : y < M) (w : World) :
    Calls Tryd.prog 27 #[yv 32 x, yv 32 y] w fun e w' => e = .returned (.bool (decide (x < y))) ∧ Grown w w' := by
  obtain ⟨hE, hW⟩ := params2 w x y
  rw [yv, yv]
  have hcx := fun i (hi : i < 32) => hE _ (.head _) i _ (yl_get 32 x i hi)
  have hcy := fun i (hi : i < 32) => hE _ (.tail _ (.head _)) i _ (yl_get 32 y i hi)
  simp only [Nat.zero_add] at hcx hcy
  go_enter Tryd.func27, Tryd.ntmps27
  go_wp2
  generalize ((w.alloc (Obj.cells (yl 32 x).toArray 23)).alloc (Obj.cells (yl 32 y).toArray 23)) = W0 at *
  clear hE
  go_loopw [5] (fun v5 wr => ∃ k n : Nat, v5 = .int .i64 ((k : Int) - 1) ∧ k ≤ 32 ∧ wr = W0.drewN n ∧ x / 256 ^ k = y / 256 ^ k) (fun v5 _ => (intOf v5 + 1).toNat)
  case atStart =>
    refine ⟨32, 0, rfl, by decide, rfl, ?_⟩
    have e : 256 ^ 32 = M := by decide
    rw [e, Nat.div_eq_of_lt hx, Nat.div_eq_of_lt hy]
  case round =>
    obtain ⟨k, n, rfl, hk, rfl, hdiv⟩ := hrel
    rcases Nat.eq_zero_or_pos k with rfl | hpos
    · have hxy : x = y := by simpa using hdiv
      subst hxy
      clear hcx hcy hdiv
      go_wp2
      go_ret
      exact ⟨by simp, grown_drewN hW _⟩
    · obtain ⟨i, rfl⟩ : ∃ i, k = i + 1 := ⟨k - 1, by omega⟩
      obtain ⟨s1, s2⟩ := less_step hdiv
      have cx := hcx i (by omega)
      have cy := hcy i (by omega)
      simp only [dg] at cx cy
      clear hcx hcy hdiv
      have ei : ((i + 1 : Nat) : Int) - 1 = (i : Int) := by omega
      rw [ei]
      clear ei
      have b0 : (0 : Int) ≤ (i : Int) := by omega
      have b1 : (i : Int) < 32 := by omega
      have wi : IntKind.i64.wrap ((i : Int) - 1) = (i : Int) - 1 := by rw [IntKind.wrap_i64]; omega
      generalize hbx : x / 256 ^ i % 256 = bx at *
      generalize hby : y / 256 ^ i % 256 = by' at *

      by_cases hb : bx = by'
      · have s1' := s1 hb
        subst hb
        clear s1 s2 hbx hby
        have sd : Hid (x / 256 ^ i = y / 256 ^ i) := s1'
        clear s1'
        go_wp2
        go_quiet (fail)
        go_wp2
        go_roundw
        case rel => exact ⟨i, _, rfl, by omega, rfl, sd.out⟩
        case measure => simp [intOf]
      · have s2' := s2 hb
        have hbi : ¬ ((bx : Int) = (by' : Int)) := by omega
        clear s1 s2 hbx hby
        have sd : Hid (bx < by' ↔ x < y) := s2'
        clear s2'
        go_wp2
        go_quiet (fail)
        go_wp2
        go_quiet (fail)
        go_wp2
        go_ret
        refine ⟨?_, hW⟩
        have h : bx < by' ↔ x < y := sd.out
        show Ending.returned (.bool (decide (bx < by'))) = _
        rw [decide_eq_decide.2 h]
end Go.Proofs.YteijccjdejjbjaaDoor
namespace Go.Proofs.YteijccjdejjbjaaDoor
open Go.RowKit Go.Shelf ScalarNum

theorem keep2 {W w1 w2 : World} {b1 b2 : Nat} {xs : List Value} (h : w1.rangeAt b1 0 xs ∧ w1.there b2 0 32 ∧ Grown W w1) (hg : Grown w1 w2) :
    w2.rangeAt b1 0 xs ∧ w2.there b2 0 32 ∧ Grown W w2 :=
  ⟨rangeAt_grown h.1 hg, there_grown h.2.1 hg, grown_trans h.2.2 hg⟩

set_option maxRecDepth 100000 in
set_option maxHeartbeats 1000000 in
theorem cut_num (x : Nat) (hx : x < M) (w : World) (hT : Tab w) : Calls Tryd.prog 23 #[yv 32 x] w fun e w' => e = .returned (yv 32 (sred x)) ∧ Grown w w' := by
  have h0 := alloc2 w 23 23 (yl 32 x) (yl 32 0).toArray
  rw [show (yl 32 0).toArray.size = 32 from rfl] at h0
  have HT := Hid.of hT
  clear hT
  have es : smad x 1 0 = sred x := by unfold smad sred; rw [Nat.mul_one, Nat.add_zero]
  rw [yv]
  go_enter Tryd.func23, Tryd.ntmps23
  go_wp2
  rw [← yl32_zero]
  generalize ((w.alloc (.cells (yl 32 x).toArray 23)).alloc (.cells (yl 32 0).toArray 23)) = W0 at *
  refine wp_region_noPanic ?_
  refine wp_region_held_drew (S := fun w' => w'.rangeAt w.heap.size 0 (yl 32 x) ∧ w'.there (w.heap.size + 1) 0 32 ∧ Grown w w') (by kernel_rfl) ⟨h0.1, h0.2.2.1, h0.2.2.2⟩ (fun hH => ?_)
  clear h0
  refine take32 0 (x) (w.heap.size) rfl (by kernel_rfl) (by kernel_rfl) (by kernel_rfl) (fun _ _ _ h => h) (by rfl) rfl rfl (fun _ h => h.1) hH ?_
  simp only [Act.put, List.setIfInBounds_toArray, List.set_cons_zero, List.set_cons_succ]
  refine step1 1 (by kernel_rfl) rfl (fun K hK => ?_)
  go_simp
  refine Calls.mono (number_nat 1 (by decide) 1 rfl _) ?_
  rintro e w1 ⟨rfl, hg1⟩
  dsimp only
  refine hK.out _ _ (keep2 hH hg1) (fun hH => ?_)
  clear hK K
  refine step1 2 (by kernel_rfl) rfl (fun K hK => ?_)
  go_simp
  refine Calls.mono (number_nat 0 (by decide) 0 rfl _) ?_
  rintro e w2 ⟨rfl, hg2⟩
  dsimp only
  refine hK.out _ _ (keep2 hH hg2) (fun hH => ?_)
  clear hK K
  refine step1 3 (by kernel_rfl) rfl (fun K hK => ?_)
  go_simp
  refine Calls.mono (MulAdd_num x 1 0 hx (by decide) (by decide) _ (HT.out.grown hH.2.2)) ?_
  rintro e w3 ⟨rfl, hg3⟩
  dsimp only
  refine hK.out _ _ (keep2 hH hg3) (fun hH => ?_)
  clear hK K
  obtain ⟨hr1, hth, hgw⟩ := hH
  rw [es]
  refine step1 4 (by kernel_rfl) rfl (fun K hK => ?_)
  refine store32 (sred x) (w.heap.size + 1) rfl (by rfl) rfl rfl hth ?_
  simp only [Act.put]
  refine hK.out _ _ ⟨World.rangeAt_setCells_apart hr1 _ _ _ (by left; omega), World.there_setCells hth _ _ _, grown_setCells (by omega) _ _ hgw⟩ (fun _ => ?_)
  clear hK K
  refine wpAnyH_done (by kernel_rfl) ?_ _
  refine NoPanic.normal ?_
  repeat go_step
  refine bodyPost_ret (v := yv 32 (sred x)) (result32 Tryd.results23 _ _ (w.heap.size + 1) _ ?hp (World.rangeAt_setCells_same _ _ _ _ (by rw [yl_length]; exact hth))) ?hd ?_
  case hp => rfl
  case hd => rfl
  exact ⟨rfl, grown_setCells (by omega) _ _ hgw⟩

set_option maxRecDepth 100000 in
set_option maxHeartbeats 1000000 in
theorem Canonical_num (x : Nat) (hx : x < M) (w : World) (hT : Tab w) : Calls Tryd.prog 17 #[yv 32 x] w fun e w' => e = .returned (.bool (decide (x < L))) ∧ Grown w w' := by
  have h0 : (w.alloc (.cells (yl 32 x).toArray 23)).rangeAt w.heap.size 0 (yl 32 x) ∧ Grown w (w.alloc (.cells (yl 32 x).toArray 23)) := ⟨rangeAt_alloc_new w 23 (yl 32 x), Grown.alloc (Grown.refl _) _ _⟩
  have HT := Hid.of hT
  clear hT
  have ed : decide (x = x % L) = decide (x < L) := by
    apply decide_eq_decide.2
    constructor
    · intro h; rw [h]; exact modL_lt x
    · intro h; exact (Nat.mod_eq_of_lt h).symm
  rw [yv]
  go_enter Tryd.func17, Tryd.ntmps17
  go_wp2_with (with_reducible show wpList _ _ _ ({ dst := _, op := Op.load 23 _, type := _, pos := _, after := _, guard := _ } :: _) _ _; refine Shut.out ?_)
  show wpList _ _ _ _ _ _
  generalize (w.alloc (.cells (yl 32 x).toArray 23)) = W0 at *
  have H0 := Hid.of h0
  clear h0
  refine wpList_load32 rfl _ rfl w.heap.size rfl x H0.out.1 ?_
  simp only [Act.put, List.setIfInBounds_toArray, List.set_cons_zero, List.set_cons_succ]
  go_wp2_with fail
  refine Calls.mono (load_num x hx _) ?_
  rintro e w1 ⟨rfl, g1⟩
  dsimp only
  go_wp2_with (with_reducible show wpList _ _ _ ({ dst := _, op := Op.store 62 _ _, type := _, pos := _, after := _, guard := _ } :: _) _ _; refine Shut.out ?_)
  show wpList _ _ _ _ _ _
  refine wpList_store_newN x (by simp) rfl rfl rfl rfl (fun w2 hg2 hr2 ht2 => ?_)
  simp only [Act.put]
  apply wpList_nil
  have H1 := Hid.of (And.intro hr2 (grown_trans (grown_trans H0.out.2 g1) hg2))
  clear H0 g1 hg2 hr2 ht2
  generalize w1.heap.size = bx at *
  go_wp2
  refine wp_region_noPanic ?_
  refine wp_region_held_drew (S := fun w' => w'.rangeAt bx 0 (wl 4 x) ∧ Grown w w') (by kernel_rfl) H1.out (fun hH => ?_)
  refine takeN 0 x bx 0 rfl (by kernel_rfl) (by kernel_rfl) (by kernel_rfl) (fun _ _ _ h => h) (by rfl) rfl rfl (fun _ h => h.1) hH ?_
  simp only [Act.put, List.setIfInBounds_toArray, List.set_cons_zero, List.set_cons_succ]
  refine takeN 1 x bx 0 rfl (by kernel_rfl) (by kernel_rfl) (by kernel_rfl) (fun _ _ _ h => h) (by rfl) rfl rfl (fun _ h => h.1) hH ?_
  simp only [Act.put, List.setIfInBounds_toArray, List.set_cons_zero, List.set_cons_succ]
  refine step1 2 (by kernel_rfl) rfl (fun K hK => ?_)
  go_simp
  refine Calls.mono (reduced_num x hx _ (HT.out.grown hH.2)) ?_
  rintro e w3 ⟨rfl, hg3⟩
  dsimp only
  refine hK.out _ _ (⟨rangeAt_grown hH.1 hg3, grown_trans hH.2 hg3⟩) (fun hH => ?_)
  clear hK K
  refine takeV 3 (.bool (decide (x < L))) rfl (by kernel_rfl) (by kernel_rfl) (by kernel_rfl) (fun _ _ _ h => h) (by rfl) (fun w _ => by rw [← ed]; exact exec_eqlN rfl x (x % L) rfl rfl hx (modL_ltM x) w) hH ?_
  simp only [Act.put, List.setIfInBounds_toArray, List.set_cons_zero, List.set_cons_succ]
  refine takeV 4 (.bool (decide (x < L))) rfl (by kernel_rfl) (by kernel_rfl) (by kernel_rfl) (fun _ _ _ h => h) (by rfl) (fun w _ => rfl) hH ?_
  simp only [Act.put, List.setIfInBounds_toArray, List.set_cons_zero, List.set_cons_succ]
  refine wpAnyH_done (by kernel_rfl) ?_ _
  refine NoPanic.normal ?_
  repeat go_step
  go_ret
  exact ⟨rfl, hH.2⟩
theorem canon_is (x : Nat) (hx : x < M) (b : Bool) (hb : decide (x < L) = b) (w : World) (hT : Tab w) : Calls Tryd.prog 17 #[yv 32 x] w fun e w' => e = .returned (.bool b) ∧ Grown w w' := by
  rw [← hb]; exact Canonical_num x hx w hT
theorem less_is (x y : Nat) (hx : x < M) (hy : y < M) (b : Bool) (hb : decide (x < y) = b) (w : World) : Calls Tryd.prog 27 #[yv 32 x, yv 32 y] w fun e w' => e = .returned (.bool b) ∧ Grown w w' := by
  rw [← hb]; exact less_any x y hx hy w
end Go.Proofs.YteijccjdejjbjaaDoor
namespace Go.Proofs.YteijccjdejjbjaaDoor
open Go.RowKit Go.Shelf ScalarNum

/-- digits of 8 bits as cells of type int -/
def il (n v : Nat) : List Value := (ds 256 n v).map fun z : Nat => .int .i64 (z : Int)
def iv (n v : Nat) : Value := .agg (il n v).toArray
theorem il_length (n v : Nat) : (il n v).length = n := by simp [il, ds_length]
theorem il_get (n v i : Nat) (h : i < n) : (il n v)[i]? = some (.int .i64 ((dg 256 v i : Nat) : Int)) := by simp [il, ds_get _ _ _ _ h]
theorem il_one (n v : Nat) : ∀ u ∈ il n v, u.oneCell' = true := by
  intro u hu
  simp only [il, List.mem_map] at hu
  obtain ⟨i, _, rfl⟩ := hu
  rfl
theorem il_set {n v k z : Nat} (hz : z < 256) (hk : k < n) : (il n v).set k (.int .i64 (z : Int)) = il n (st 256 v k z) := by
  rw [il, il, ← ds_set (by decide) hz hk, List.map_set]
theorem irange_set {w : World} {b n v : Nat} (h : w.rangeAt b 0 (il n v)) {k z : Nat} (hz : z < 256) (hk : k < n) : (w.setCell ⟨b, k, none⟩ (.int .i64 (z : Int))).rangeAt b 0 (il n (st 256 v k z)) := by
  rw [← il_set hz hk]; exact range_set h k (by rw [il_length]; exact hk) _
theorem info33 : (Tryd.prog.info? 79).map (·.size) = some 33 := by kernel_rfl
theorem wpList_load33 {ops : Array Oper} {rest : List Oper} {op : Oper} {a : Act} {w : World} {Q : Exit → Act → World → Prop} (hgd : op.guard = none) (x : Operand) (ho : op.op = .load 79 x)
    (b : Nat) (hx : a.eval x = .pointer (some ⟨b, 0, none⟩)) (n : Nat) (hc : w.rangeAt b 0 (il 33 n))
    (h : wpList Tryd.prog ops Q rest (a.put op.dst (iv 33 n)) w) : wpList Tryd.prog ops Q (op :: rest) a w :=
  wpList_load_mid hgd 79 x ho b 0 hx (il 33 n) _ hc Tryd.underlying79 rfl (by rw [il_length]; exact info33) h

theorem less_top {x y : Nat} (hx : x / 256 ^ 32 % 256 = 0) (hx33 : x < 256 ^ 33) (hy : y < M) : x / 256 ^ 32 = y / 256 ^ 32 := by
  have e : (256 : Nat) ^ 32 = M := by decide
  rw [e, Nat.div_eq_of_lt hy, ← e]
  have h1 : x / 256 ^ 32 < 256 := Nat.div_lt_of_lt_mul (by rw [← Nat.pow_succ]; exact hx33)
  rwa [Nat.mod_eq_of_lt h1] at hx

set_option maxRecDepth 100000 in
set_option maxHeartbeats 1000000 in
theorem below_num (x y : Nat) (hx : x < 256 ^ 33) (hy : y < M) (w : World) :
    Calls Tryd.prog 60 #[iv 33 x, yv 32 y] w fun e w' => e = .returned (.bool (decide (x < y))) ∧ Grown w w' := by
  have h0 : ((w.alloc (.cells (il 33 x).toArray 79)).alloc (.cells (yl 32 y).toArray 23)).rangeAt w.heap.size 0 (il 33 x) ∧ ((w.alloc (.cells (il 33 x).toArray 79)).alloc (.cells (yl 32 y).toArray 23)).rangeAt (w.heap.size + 1) 0 (yl 32 y) ∧ Grown w ((w.alloc (.cells (il 33 x).toArray 79)).alloc (.cells (yl 32 y).toArray 23)) := by
    have h1 := rangeAt_grown (rangeAt_alloc_new w 79 (il 33 x)) (Grown.alloc (Grown.refl _) (yl 32 y).toArray 23)
    have h2 := rangeAt_alloc_new (w.alloc (.cells (il 33 x).toArray 79)) 23 (yl 32 y)
    rw [show (w.alloc (.cells (il 33 x).toArray 79)).heap.size = w.heap.size + 1 by simp] at h2
    exact ⟨h1, h2, Grown.alloc (Grown.alloc (Grown.refl _) _ _) _ _⟩
  have htop : (il 33 x)[32]? = some (.int .i64 (dg 256 x 32 : Nat)) := il_get 33 x 32 (by decide)
  have hd : x / 256 ^ 32 % 256 = dg 256 x 32 := rfl
  rw [iv, yv]
  generalize dg 256 x 32 = tp at *
  by_cases hz : tp = 0
  · subst hz
    have hlt := less_top hd hx hy
    clear hd hx hy
    go_enter Tryd.func60, Tryd.ntmps60
    go_wp2
    generalize ((w.alloc (Obj.cells (il 33 x).toArray 79)).alloc (Obj.cells (yl 32 y).toArray 23)) = W0 at *
    clear htop
    obtain ⟨rx, ry, hW⟩ := h0
    have hcx := fun i (hi : i < 33) => rx i _ (il_get 33 x i hi)
    have hcy := fun i (hi : i < 32) => ry i _ (yl_get 32 y i hi)
    simp only [Nat.zero_add] at hcx hcy
    clear rx ry
    go_loopw [5] (fun v5 wr => ∃ k n : Nat, v5 = .int .i64 ((k : Int) - 1) ∧ k ≤ 32 ∧ wr = W0.drewN n ∧ x / 256 ^ k = y / 256 ^ k) (fun v5 _ => (intOf v5 + 1).toNat)
    case atStart => exact ⟨32, 0, rfl, by decide, rfl, hlt⟩
    case round =>
      obtain ⟨k, n, rfl, hk, rfl, hdiv⟩ := hrel
      clear hlt
      rcases Nat.eq_zero_or_pos k with rfl | hpos
      · have hxy : x = y := by simpa using hdiv
        subst hxy
        clear hcx hcy hdiv
        go_wp2
        go_ret
        exact ⟨by simp, grown_drewN hW _⟩
      · obtain ⟨i, rfl⟩ : ∃ i, k = i + 1 := ⟨k - 1, by omega⟩
        obtain ⟨s1, s2⟩ := less_step hdiv
        have cx := hcx i (by omega)
        have cy := hcy i (by omega)
        simp only [dg] at cx cy
        clear hcx hcy hdiv
        have ei : ((i + 1 : Nat) : Int) - 1 = (i : Int) := by omega
        rw [ei]
        clear ei
        have b0 : (0 : Int) ≤ (i : Int) := by omega
        have b1 : (i : Int) < 32 := by omega
        have wi : IntKind.i64.wrap ((i : Int) - 1) = (i : Int) - 1 := by rw [IntKind.wrap_i64]; omega
        have q1 : x / 256 ^ i % 256 < 256 := Nat.mod_lt _ (by decide)
        have q2 : y / 256 ^ i % 256 < 256 := Nat.mod_lt _ (by decide)
        generalize hbx : x / 256 ^ i % 256 = bx at *
        generalize hby : y / 256 ^ i % 256 = by' at *
        have q3 : wrap64 (by' : Int) = (by' : Int) := by simp [wrap64]; omega
        by_cases hb : bx = by'
        · have s1' := s1 hb
          subst hb
          clear s1 s2 hbx hby
          have sd : Hid (x / 256 ^ i = y / 256 ^ i) := s1'
          clear s1'
          go_wp2
          go_quiet (fail)
          go_wp2
          go_roundw
          case rel => exact ⟨i, _, rfl, by omega, rfl, sd.out⟩
          case measure => simp [intOf]
        · have s2' := s2 hb
          have hbi : ¬ ((bx : Int) = (by' : Int)) := fun h => hb (Int.ofNat_inj.1 h)
          clear s1 s2 hbx hby
          have sd : Hid (bx < by' ↔ x < y) := s2'
          clear s2'
          go_wp2
          go_quiet (fail)
          go_wp2
          go_quiet (fail)
          go_wp2
          go_ret
          refine ⟨?_, hW⟩
          have h : bx < by' ↔ x < y := sd.out
          show Ending.returned (.bool (decide (bx < by'))) = _
          rw [decide_eq_decide.2 h]
  · have hge : ¬ x < y := by
      intro h
      have h1 : x / 256 ^ 32 = 0 := Nat.div_eq_of_lt (Nat.lt_trans h (by rw [show (256 : Nat) ^ 32 = M from by decide]; exact hy))
      rw [h1, Nat.zero_mod] at hd
      exact hz hd.symm
    rw [decide_eq_false hge]
    clear hge hx hy
    have hzi : ¬ (tp : Int) = 0 := by omega
    have HW := Hid.of h0.2.2
    clear hd h0
    go_enter Tryd.func60, Tryd.ntmps60
    go_wp2
    go_ret
    exact ⟨rfl, HW.out⟩
end Go.Proofs.YteijccjdejjbjaaDoor
namespace ScalarNum

theorem accb (b v k t : Nat) : st b v k ((dg b v k + t) % b) + (dg b v k + t) / b * b ^ (k + 1) = v + t * b ^ k := by
  have h := st_eq b v k ((dg b v k + t) % b)
  have h2 := Nat.div_add_mod (dg b v k + t) b
  generalize st b v k ((dg b v k + t) % b) = v' at *
  generalize dg b v k = w at *
  generalize (w + t) / b = q at *
  generalize (w + t) % b = r at *
  rw [Nat.pow_succ]
  generalize b ^ k = P at *
  have e : (w + t) * P = q * (P * b) + r * P := by
    rw [← h2, Nat.add_mul]
    congr 1
    rw [Nat.mul_comm b q, Nat.mul_assoc, Nat.mul_comm b P]
  rw [Nat.add_mul] at e
  omega
theorem decb (b v k t d c : Nat) (hd : d + t = dg b v k + c * b) : st b v k d + t * b ^ k = v + c * b ^ (k + 1) := by
  have h := st_eq b v k d
  generalize st b v k d = v' at *
  generalize dg b v k = w at *
  rw [Nat.pow_succ]
  generalize b ^ k = P at *
  have e : d * P + t * P = w * P + c * (P * b) := by
    rw [← Nat.add_mul, hd, Nat.add_mul, Nat.mul_assoc, Nat.mul_comm b P]
  omega
theorem div_succb {b v x k : Nat} (h : v / b ^ k = x / b ^ k) : v / b ^ (k + 1) = x / b ^ (k + 1) := by
  rw [Nat.pow_succ, ← Nat.div_div_eq_div_mul, h, Nat.div_div_eq_div_mul]

/-- doubling, digit by digit -/
theorem dbl_step {cur c R bit j : Nat} (h : cur + c * 256 ^ j = R + R % 256 ^ j + bit) (hx : cur / 256 ^ j = R / 256 ^ j) :
    st 256 cur j ((2 * dg 256 cur j + c) % 256) + (2 * dg 256 cur j + c) / 256 * 256 ^ (j + 1) = R + R % 256 ^ (j + 1) + bit ∧
    st 256 cur j ((2 * dg 256 cur j + c) % 256) / 256 ^ (j + 1) = R / 256 ^ (j + 1) := by
  have hw : dg 256 cur j = dg 256 R j := by unfold dg; rw [hx]
  have a := accb 256 cur j (dg 256 cur j + c)
  rw [show dg 256 cur j + (dg 256 cur j + c) = 2 * dg 256 cur j + c by omega] at a
  refine ⟨?_, ?_⟩
  · rw [a, mod_succ, Nat.add_mul, hw]
    omega
  · rw [st_div (by decide) (Nat.mod_lt _ (by decide))]; exact div_succb hx
theorem sub_step256 {cur X Y c j d c' : Nat} (h : cur + Y % 256 ^ j = X + c * 256 ^ j) (hd : d + (dg 256 Y j + c) = dg 256 cur j + c' * 256) :
    st 256 cur j d + Y % 256 ^ (j + 1) = X + c' * 256 ^ (j + 1) := by
  have := decb 256 cur j (dg 256 Y j + c) d c' hd
  rw [mod_succ]
  rw [Nat.add_mul] at this
  omega
theorem bit_byte (v i : Nat) : dg 256 v (i / 8) / 2 ^ (i % 8) % 2 = v / 2 ^ i % 2 := by
  unfold dg
  have hj : i = 8 * (i / 8) + i % 8 := by omega
  have hr : i % 8 < 8 := Nat.mod_lt _ (by decide)
  generalize i / 8 = k at *
  generalize i % 8 = r at *
  subst hj
  rw [show (256 : Nat) ^ k = 2 ^ (8 * k) from by rw [show (256 : Nat) = 2 ^ 8 from by decide, ← Nat.pow_mul], Nat.pow_add, ← Nat.div_div_eq_div_mul]
  generalize v / 2 ^ (8 * k) = y
  have h8 : r = 0 ∨ r = 1 ∨ r = 2 ∨ r = 3 ∨ r = 4 ∨ r = 5 ∨ r = 6 ∨ r = 7 := by omega
  rcases h8 with rfl | rfl | rfl | rfl | rfl | rfl | rfl | rfl <;> simp only [Nat.reducePow, Nat.div_one] <;> omega
theorem rest_step (L v i : Nat) : (2 * (v / 2 ^ (i + 1) % L) + v / 2 ^ i % 2) % L = v / 2 ^ i % L := by
  rw [Nat.add_mod, Nat.mul_mod, Nat.mod_mod, ← Nat.mul_mod, ← Nat.add_mod]
  congr 1
  rw [Nat.pow_succ, ← Nat.div_div_eq_div_mul]
  omega
end ScalarNum
