import Derived.Test.YteijccjdejjbjaaDoorQk1
namespace Go.Proofs.YteijccjdejjbjaaDoor
open Go.RowKit Go.Shelf ScalarNum

theorem dg_mod (v i : Nat) (h : i < 4) : dg B (v % M) i = dg B v i := by
  have e : v = v / M * B ^ 4 + v % M := by rw [B4, Nat.mul_comm]; exact (Nat.div_add_mod v M).symm
  conv => rhs; rw [e, dg_low B_pos _ _ _ _ h]
theorem dg_div (v i : Nat) : dg B (v / M) i = dg B v (4 + i) := by
  unfold dg
  rw [← B4, Nat.div_div_eq_div_mul, ← Nat.pow_add]
theorem range_low {w : World} {b v : Nat} (h : w.rangeAt b 0 (wl 8 v)) : w.rangeAt b 0 (wl 4 (v % M)) := by
  intro j u hj
  have hj4 : j < 4 := by
    have := (List.getElem?_eq_some_iff.1 hj).1; rwa [wl_length] at this
  rw [wl_get 4 _ j hj4, dg_mod v j hj4, ← wl_get 8 v j (by omega)] at hj
  exact h j u hj
theorem range_high {w : World} {b v : Nat} (h : w.rangeAt b 0 (wl 8 v)) : w.rangeAt b 4 (wl 4 (v / M)) := by
  intro j u hj
  have hj4 : j < 4 := by
    have := (List.getElem?_eq_some_iff.1 hj).1; rwa [wl_length] at this
  rw [wl_get 4 _ j hj4, dg_div v j, ← wl_get 8 v (4 + j) (by omega)] at hj
  have := h (4 + j) u hj
  rwa [Nat.zero_add] at this

structure QX (w0 : World) (bx v i : Nat) (wr : World) : Prop where
  rp : wr.rangeAt w0.heap.size 0 (wl 8 v)
  tr : wr.there (w0.heap.size + 1) 0 4
  rx : wr.rangeAt bx 0 (wl 4 ((v / M * 16 ^ i + v % M / 16 ^ (64 - i)) % L))
  tx : wr.there bx 0 4
  gw : Grown w0 wr

theorem and15 (a : Nat) (ha : a < B) : bits .and .u64 (a : Int) 15 = ((a % 16 : Nat) : Int) := by
  have := bits_and_u64_nat a 15 ha (by omega)
  have e : a &&& 15 = a % 16 := Nat.and_two_pow_sub_one_eq_mod a 4
  rw [e] at this
  exact this

set_option maxRecDepth 100000 in
set_option maxHeartbeats 4000000 in
theorem prod_num (v : Nat) (hv : v < M * M) (w : World) (hT : Tab w) : Calls Tryd.prog 40 #[wv 8 v] w fun e w' => e = .returned (wv 4 (v % L)) ∧ Grown w w' := by
  rw [wv]
  have hhM : v / M < M := Nat.div_lt_of_lt_mul hv
  have hlM : v % M < M := Nat.mod_lt _ (by decide)
  have h0 := alloc2 w 66 62 (wl 8 v) #[Value.int IntKind.u64 0, Value.int IntKind.u64 0, Value.int IntKind.u64 0, Value.int IntKind.u64 0]
  go_enter Tryd.func40, Tryd.ntmps40
  go_wp2_with (with_reducible show wpList _ _ _ ({ dst := _, op := Op.load 62 _, type := _, pos := _, after := _, guard := _ } :: _) _ _; refine Shut.out ?_)
  show wpList _ _ _ _ _ _
  generalize ((w.alloc (Obj.cells (wl 8 v).toArray 66)).alloc (Obj.cells #[Value.int IntKind.u64 0, Value.int IntKind.u64 0, Value.int IntKind.u64 0, Value.int IntKind.u64 0] 62)) = W0 at *
  obtain ⟨r0, t0, t1, g0⟩ := h0
  have hsz := hT.lt
  have HT := Hid.of hT
  have HX := Hid.of (And.intro r0 (And.intro (show W0.there (w.heap.size + 1) 0 4 from t1) g0))
  clear r0 t0 t1 g0 hT
  refine wpList_loadNo rfl _ rfl w.heap.size 4 ?hp1 (v / M) (range_high HX.out.1) ?_
  case hp1 => go_simp
  simp only [Act.put, List.setIfInBounds_toArray, List.set_cons_zero, List.set_cons_succ]
  go_wp2_with fail
  refine Calls.mono (reduced_num (v / M) hhM _ (HT.out.grown HX.out.2.2)) ?_
  rintro e w1 ⟨rfl, g1⟩
  have HX1 := Hid.of (And.intro (rangeAt_grown HX.out.1 g1) (And.intro (there_grown HX.out.2.1 g1) (grown_trans HX.out.2.2 g1)))
  have hlt1 : w.heap.size + 1 < w1.heap.size := there_lt HX1.out.2.1 (by decide)
  clear HX g1
  dsimp only
  go_wp2_with (with_reducible show wpList _ _ _ ({ dst := _, op := Op.store 62 _ _, type := _, pos := _, after := _, guard := _ } :: _) _ _; refine Shut.out ?_)
  show wpList _ _ _ _ _ _
  refine wpList_store_newN (v / M % L) (by simp) rfl rfl rfl rfl (fun w2 hg2 hr2 ht2 => ?_)
  simp only [Act.put]
  apply wpList_nil
  have hP0 : QX w w1.heap.size v 0 w2 := ⟨rangeAt_grown HX1.out.1 hg2, there_grown HX1.out.2.1 hg2, by
    rw [Nat.pow_zero, Nat.mul_one, Nat.sub_zero, Nat.div_eq_of_lt (show v % M < 16 ^ 64 from by rw [show (16 : Nat) ^ 64 = M from by decide]; exact hlM), Nat.add_zero]; exact hr2, ht2, grown_trans HX1.out.2.2 hg2⟩
  have H0 := Hid.of hP0
  clear hP0 hr2 ht2 HX1 hg2
  generalize w1.heap.size = bx at *
  go_wp2
  go_loopw [8] (fun v8 wr => ∃ i : Nat, v8 = .int .i64 (i : Int) ∧ i ≤ 64 ∧ QX w bx v i wr) (fun v8 _ => 64 - (intOf v8).toNat)
  case atStart => exact ⟨0, rfl, by decide, H0.out⟩
  case round =>
    obtain ⟨i, rfl, hi, hQ⟩ := hrel
    clear H0
    by_cases hlt : i < 64
    · have c1 : wr.cell? ⟨w.heap.size, 3 - i / 16, none⟩ = some (.int .u64 (dg B (v % M) (3 - i / 16) : Nat)) := by
        have := (range_low hQ.rp) (3 - i / 16) _ (wl_get 4 _ _ (by omega)); rwa [Nat.zero_add] at this
      have l1 := hx_word (v % M) i hlt
      have l2 := hx_step L (v / M) (v % M) i hlt
      have l3 : hx (v % M) i < 16 := Nat.mod_lt _ (by decide)
      have hw1 : dg B (v % M) (3 - i / 16) < B := dg_lt B_pos
      have hw2 : dg B (v % M) (3 - i / 16) / 2 ^ (60 - i % 16 * 4) < B := Nat.lt_of_le_of_lt (Nat.div_le_self _ _) hw1
      have ha := and15 _ hw2
      rw [l1] at ha
      generalize dg B (v % M) (3 - i / 16) = wd at *
      generalize hx (v % M) i = dd at *
      have ha' : bits .and .u64 ((wd : Int) / 2 ^ (60 - i % 16 * 4)) 15 = (dd : Int) := by
        have := ha
        simpa using this
      clear ha
      have b1 : (i : Int) < 64 := by omega
      have e1 : (3 : Int) - (i : Int) / 16 = ((3 - i / 16 : Nat) : Int) := by omega
      have e2 : (60 : Int) - (i : Int) % 16 * 4 = ((60 - i % 16 * 4 : Nat) : Int) := by omega
      have H1 := Hid.of l2
      have H2 := Hid.of l3
      have HQ := Hid.of hQ
      clear l1 l2 l3 hw1 hw2 hQ
      go_wp2_with fail
      try rw [ha']
      obtain ⟨rp, tr, rx, tx, gw⟩ := HQ.out
      refine Calls.mono (follow_num bx _ dd (by omega) (Nat.mod_lt _ (by decide)) H2.out _ (HT.out.grown gw) rx tx) ?_
      rintro e w3 ⟨rfl, g3, r3, t3⟩
      rw [H1.out] at r3
      have HQ2 := Hid.of (show QX w bx v (i + 1) w3 from ⟨g3.range rp (by omega), g3.there tr (by omega), r3, t3, GB.own gw (by omega) g3⟩)
      clear HQ rp tr rx tx gw g3 r3 t3 H1 H2 c1 ha'
      dsimp only
      go_wp2
      go_roundw
      case rel => exact ⟨i + 1, by go_num, by omega, HQ2.out⟩
      case measure => simp [intOf]; omega
    · have hi64 : i = 64 := by omega
      subst hi64
      have e1 : (v / M * 16 ^ 64 + v % M / 16 ^ (64 - 64)) % L = v % L := by
        rw [Nat.sub_self, Nat.pow_zero, Nat.div_one, show (16 : Nat) ^ 64 = M from by decide, Nat.mul_comm, Nat.div_add_mod]
      obtain ⟨rp, tr, rx, tx, gw⟩ := hQ
      rw [e1] at rx
      have H := Hid.of (And.intro rx (And.intro tr gw))
      clear rp tr rx tx gw e1 hi hlt HT
      go_wp2_with (with_reducible show wpList _ _ _ ({ dst := _, op := Op.load 62 _, type := _, pos := _, after := _, guard := _ } :: _) _ _; refine Shut.out ?_)
      show wpList _ _ _ _ _ _
      refine wpList_loadN rfl _ rfl (bx) rfl (v % L) (H.out.1) ?_
      simp only [Act.put, List.setIfInBounds_toArray, List.set_cons_zero, List.set_cons_succ]
      refine wpList_storeN rfl _ _ rfl (w.heap.size + 1) (v % L) rfl rfl (H.out.2.1) ?_
      simp only [Act.put]
      apply wpList_nil
      repeat go_step
      refine bodyPost_ret (v := wv 4 (v % L)) (resultN Tryd.results40 _ _ (w.heap.size + 1) _ ?hp (World.rangeAt_setCells_same _ _ _ _ (by rw [wl_length]; exact H.out.2.1))) ?hd ?_
      case hp => rfl
      case hd => rfl
      exact ⟨rfl, grown_setCells (by omega) _ _ (H.out.2.2)⟩
end Go.Proofs.YteijccjdejjbjaaDoor
namespace Go.Proofs.YteijccjdejjbjaaDoor
open Go.RowKit Go.Shelf ScalarNum

section
variable {ops : Array Oper} {Q : Exit → Act → World → Prop} {md : Region.Mode} {S : World → Prop} {fuel : Nat} {listed : Array Bool} {a : Act} {w : World}

/-- a load of 32 bytes is taken first -/
theorem take32 (i : Nat) (n b : Nat) {oi : Oper} (hi : ops.toList[i]? = some oi) (hs : Region.noSelect ops = true) (hf : Region.free md ops listed i = true) (hr : (Region.ready md ops listed).contains i = true)
    (hQ : ∀ c a w, Q (.panic c) (a.put oi.dst (yv 32 n)) w → Q (.panic c) a w) (hw : Region.wanted oi (yielded ops a.tmps) = true) {x : Operand} (ho : oi.op = .load 23 x)
    (hx : a.eval x = .pointer (some ⟨b, 0, none⟩)) (hS : ∀ w, S w → w.rangeAt b 0 (yl 32 n)) (hSw : S w)
    (h : wpAnyH Tryd.prog md ops Q S fuel (listed.setIfInBounds i true) (a.put oi.dst (yv 32 n)) w) : wpAnyH Tryd.prog md ops Q S (fuel + 1) listed a w :=
  wpAnyH_take (i := i) (oi := oi) (v := yv 32 n) (by rw [← Array.getElem?_toList]; exact hi) hs hf hr hQ
    (yieldsIf_load_mid hw 23 x ho b 0 hx (yl 32 n) _ hS Tryd.underlying23 rfl (by rw [yl_length]; exact info32)) hSw h

/-- .. of a number -/
theorem takeN (i : Nat) (n b o : Nat) {oi : Oper} (hi : ops.toList[i]? = some oi) (hs : Region.noSelect ops = true) (hf : Region.free md ops listed i = true) (hr : (Region.ready md ops listed).contains i = true)
    (hQ : ∀ c a w, Q (.panic c) (a.put oi.dst (wv 4 n)) w → Q (.panic c) a w) (hw : Region.wanted oi (yielded ops a.tmps) = true) {x : Operand} (ho : oi.op = .load 62 x)
    (hx : a.eval x = .pointer (some ⟨b, o, none⟩)) (hS : ∀ w, S w → w.rangeAt b o (wl 4 n)) (hSw : S w)
    (h : wpAnyH Tryd.prog md ops Q S fuel (listed.setIfInBounds i true) (a.put oi.dst (wv 4 n)) w) : wpAnyH Tryd.prog md ops Q S (fuel + 1) listed a w :=
  wpAnyH_take (i := i) (oi := oi) (v := wv 4 n) (by rw [← Array.getElem?_toList]; exact hi) hs hf hr hQ
    (yieldsIf_load_mid hw 62 x ho b o hx (wl 4 n) _ hS Tryd.underlying62 rfl (by rw [wl_length]; exact infoN)) hSw h

theorem takeV (i : Nat) (v : Value) {oi : Oper} (hi : ops.toList[i]? = some oi) (hs : Region.noSelect ops = true) (hf : Region.free md ops listed i = true) (hr : (Region.ready md ops listed).contains i = true)
    (hQ : ∀ c a w, Q (.panic c) (a.put oi.dst v) w → Q (.panic c) a w) (hw : Region.wanted oi (yielded ops a.tmps) = true)
    (hy : ∀ w, S w → (execOp a.eval oi).run Tryd.prog w = .ok (.value v) w) (hSw : S w)
    (h : wpAnyH Tryd.prog md ops Q S fuel (listed.setIfInBounds i true) (a.put oi.dst v) w) : wpAnyH Tryd.prog md ops Q S (fuel + 1) listed a w :=
  wpAnyH_take (i := i) (oi := oi) (v := v) (by rw [← Array.getElem?_toList]; exact hi) hs hf hr hQ (Or.inl ⟨hw, hy⟩) hSw h

theorem takeU (i : Nat) {oi : Oper} (hi : ops.toList[i]? = some oi) (hs : Region.noSelect ops = true) (hf : Region.free md ops listed i = true) (hr : (Region.ready md ops listed).contains i = true)
    (hQ : ∀ c a w, Q (.panic c) (a.put oi.dst undef) w → Q (.panic c) a w) (hw : Region.wanted oi (yielded ops a.tmps) = false) (hSw : S w)
    (h : wpAnyH Tryd.prog md ops Q S fuel (listed.setIfInBounds i true) (a.put oi.dst undef) w) : wpAnyH Tryd.prog md ops Q S (fuel + 1) listed a w :=
  wpAnyH_take (i := i) (oi := oi) (v := undef) (by rw [← Array.getElem?_toList]; exact hi) hs hf hr hQ (Or.inr ⟨hw, rfl⟩) hSw h

/-- one operation alone may come up -/
theorem step1 (i : Nat) {o : Oper} (hr : Region.ready md ops listed = [i]) (hi : ops.toList[i]? = some o)
    (h : ∀ K' : Act → World → Prop, Shut (∀ a w, S w → (S w → wpAnyH Tryd.prog md ops Q S fuel (listed.setIfInBounds i true) a w) → K' a w) → if Region.wanted o (yielded ops a.tmps) = true then Oper.wp Tryd.prog o a w K' Q else K' (a.put o.dst undef) w) :
    wpAnyH Tryd.prog md ops Q S (fuel + 1) listed a w :=
  wpAnyH_ready hr (by simp) (AllReadyH.cons (by rw [← Array.getElem?_toList]; exact hi) h AllReadyH.nil)

/-- two operations may come up -/
theorem step2 (i j : Nat) {o o' : Oper} (hr : Region.ready md ops listed = [i, j]) (hi : ops.toList[i]? = some o) (hj : ops.toList[j]? = some o')
    (h : ∀ K' : Act → World → Prop, Shut (∀ a w, S w → (S w → wpAnyH Tryd.prog md ops Q S fuel (listed.setIfInBounds i true) a w) → K' a w) → if Region.wanted o (yielded ops a.tmps) = true then Oper.wp Tryd.prog o a w K' Q else K' (a.put o.dst undef) w)
    (h' : ∀ K' : Act → World → Prop, Shut (∀ a w, S w → (S w → wpAnyH Tryd.prog md ops Q S fuel (listed.setIfInBounds j true) a w) → K' a w) → if Region.wanted o' (yielded ops a.tmps) = true then Oper.wp Tryd.prog o' a w K' Q else K' (a.put o'.dst undef) w) :
    wpAnyH Tryd.prog md ops Q S (fuel + 1) listed a w :=
  wpAnyH_ready hr (by simp) (AllReadyH.cons (by rw [← Array.getElem?_toList]; exact hi) h (AllReadyH.cons (by rw [← Array.getElem?_toList]; exact hj) h' AllReadyH.nil))

/-- a store of 32 bytes -/
theorem store32 {o : Oper} {K : Act → World → Prop} (n b : Nat) {x y : Operand} (ho : o.op = .store 23 x y) (hw : Region.wanted o (yielded ops a.tmps) = true)
    (hx : a.eval x = .pointer (some ⟨b, 0, none⟩)) (hy : a.eval y = yv 32 n) (ht : w.there b 0 32) (h : K (a.put o.dst undef) (w.setCells b 0 (yl 32 n))) :
    if Region.wanted o (yielded ops a.tmps) = true then Oper.wp Tryd.prog o a w K Q else K (a.put o.dst undef) w := by
  rw [if_pos hw]
  exact wp_store_mid 23 x y ho b 0 (yl 32 n).toArray hx hy (by rw [List.size_toArray, yl_length]; exact ht) (by rw [List.size_toArray, yl_length]; exact info32) (all_oneCell_toArray (yl_one 32 n)) h

/-- a store of any row -/
theorem storeR {o : Oper} {K : Act → World → Prop} (t : TypeId) (vs : List Value) (b : Nat) {x y : Operand} (ho : o.op = .store t x y) (hw : Region.wanted o (yielded ops a.tmps) = true)
    (hx : a.eval x = .pointer (some ⟨b, 0, none⟩)) (hy : a.eval y = .agg vs.toArray) (ht : w.there b 0 vs.length) (hi : (Tryd.prog.info? t).map (·.size) = some vs.length) (h1 : ∀ v ∈ vs, v.oneCell' = true) (h : K (a.put o.dst undef) (w.setCells b 0 vs)) :
    if Region.wanted o (yielded ops a.tmps) = true then Oper.wp Tryd.prog o a w K Q else K (a.put o.dst undef) w := by
  rw [if_pos hw]
  exact wp_store_mid t x y ho b 0 vs.toArray hx hy (by rw [List.size_toArray]; exact ht) (by rw [List.size_toArray]; exact hi) (all_oneCell_toArray h1) h
end
end Go.Proofs.YteijccjdejjbjaaDoor
namespace Go.Proofs.YteijccjdejjbjaaDoor
open Go.RowKit Go.Shelf ScalarNum

theorem infoW8 : (Tryd.prog.info? 84).map (·.size) = some 8 := by kernel_rfl
theorem infoP : (Tryd.prog.info? 66).map (·.size) = some 8 := by kernel_rfl
theorem dg_zero {z i : Nat} (hz : z < M) (hi : 4 ≤ i) : dg B z i = 0 := by
  unfold dg
  rw [Nat.div_eq_of_lt (Nat.lt_of_lt_of_le hz (by rw [← B4]; exact Nat.pow_le_pow_right B_pos hi)), Nat.zero_mod]
theorem wl8_of {z : Nat} (hz : z < M) : wl 8 z = [.int .u64 (dg B z 0 : Nat), .int .u64 (dg B z 1 : Nat), .int .u64 (dg B z 2 : Nat), .int .u64 (dg B z 3 : Nat), .int .u64 0, .int .u64 0, .int .u64 0, .int .u64 0] := by
  have h4 := dg_zero (i := 4) hz (by decide)
  have h5 := dg_zero (i := 5) hz (by decide)
  have h6 := dg_zero (i := 6) hz (by decide)
  have h7 := dg_zero (i := 7) hz (by decide)
  simp [wl, ds, List.range, List.range.loop, h4, h5, h6, h7]

theorem wpList_store_newW {ops : Array Oper} {Q : Exit → Act → World → Prop} {a : Act} {w : World} {rest : List Oper} {o : Oper} {x y : Operand} {c : Array Value} (n : Nat) (hc : 8 ≤ c.size) (hgd : o.guard = none) (ho : o.op = .store 84 x y)
    (hx : a.eval x = .pointer (some ⟨w.heap.size, 0, none⟩)) (hy : a.eval y = wv 8 n)
    (h : ∀ w2, Grown w w2 → w2.rangeAt w.heap.size 0 (wl 8 n) → w2.there w.heap.size 0 8 → wpList Tryd.prog ops Q rest (a.put o.dst undef) w2) :
    wpList Tryd.prog ops Q (o :: rest) a (w.alloc (.cells c 84)) := by
  have ht := there_alloc_new w 84 c 8 hc
  refine wpList_store_mid hgd 84 x y ho w.heap.size 0 (wl 8 n).toArray hx hy (by rw [show (wl 8 n).toArray.size = 8 from by rw [List.size_toArray, wl_length]]; exact ht) (by rw [List.size_toArray, wl_length]; exact infoW8) (all_oneCell_toArray (wl_one 8 n)) ?_
  exact h _ (grown_setCells (Nat.le_refl _) _ _ (Grown.alloc (Grown.refl _) _ _)) (World.rangeAt_setCells_same _ _ _ (wl 8 n) (by rw [wl_length]; exact ht)) (World.there_setCells ht _ _ _)

theorem build_prod {o : Oper} {ρ : Operand → Value} {x y : Operand} {v : Nat} {w : World} (ho : o.op = .build 66 #[(0, x), (1, y)]) (hx : ρ x = wv 4 (v % M)) (hy : ρ y = wv 4 (v / M)) :
    (execOp ρ o).run Tryd.prog w = .ok (.value (wv 8 v)) w := by
  have e1 : wv 4 (v % M) = .agg #[.int .u64 (dg B v 0 : Nat), .int .u64 (dg B v 1 : Nat), .int .u64 (dg B v 2 : Nat), .int .u64 (dg B v 3 : Nat)] := by
    simp [wv, wl, ds, List.range, List.range.loop, dg_mod]
  have e2 : wv 4 (v / M) = .agg #[.int .u64 (dg B v 4 : Nat), .int .u64 (dg B v 5 : Nat), .int .u64 (dg B v 6 : Nat), .int .u64 (dg B v 7 : Nat)] := by
    simp [wv, wl, ds, List.range, List.range.loop, dg_div]
  have e3 : wv 8 v = .agg #[.int .u64 (dg B v 0 : Nat), .int .u64 (dg B v 1 : Nat), .int .u64 (dg B v 2 : Nat), .int .u64 (dg B v 3 : Nat), .int .u64 (dg B v 4 : Nat), .int .u64 (dg B v 5 : Nat), .int .u64 (dg B v 6 : Nat), .int .u64 (dg B v 7 : Nat)] := by
    simp [wv, wl, ds, List.range, List.range.loop]
  rw [e1] at hx
  rw [e2] at hy
  rw [e3]
  unfold execOp
  simp only [ho]
  simp [hx, hy, run_build (P := Tryd.prog) w 66 #[(0, .agg #[.int .u64 (dg B v 0 : Nat), .int .u64 (dg B v 1 : Nat), .int .u64 (dg B v 2 : Nat), .int .u64 (dg B v 3 : Nat)]), (1, .agg #[.int .u64 (dg B v 4 : Nat), .int .u64 (dg B v 5 : Nat), .int .u64 (dg B v 6 : Nat), .int .u64 (dg B v 7 : Nat)])] #[.int .u64 (dg B v 0 : Nat), .int .u64 (dg B v 1 : Nat), .int .u64 (dg B v 2 : Nat), .int .u64 (dg B v 3 : Nat), .int .u64 (dg B v 4 : Nat), .int .u64 (dg B v 5 : Nat), .int .u64 (dg B v 6 : Nat), .int .u64 (dg B v 7 : Nat)] (by kernel_rfl)]
theorem resultP {fn : Func} {q : Tmp} (h : fn.results = #[.cell q 66]) (tmps : Array Value) (w : World) (b n : Nat)
    (hp : tmps.getD q undef = .pointer (some ⟨b, 0, none⟩)) (hc : w.rangeAt b 0 (wl 8 n)) : (results fn tmps).run Tryd.prog w = .ok (wv 8 n) w := by
  have hp' : tmps[q]?.getD undef = .pointer (some ⟨b, 0, none⟩) := by simpa using hp
  simp [results, h, hp', asAddr, run_loadVar_mid w b 0 66 (wl 8 n) _ hc Tryd.underlying66 rfl (by rw [wl_length]; exact infoP), wv]

/-- what the variables hold -/
structure TX (w0 : World) (bw x y v : Nat) (wr : World) : Prop where
  rx : wr.rangeAt w0.heap.size 0 (wl 4 x)
  ry : wr.rangeAt (w0.heap.size + 1) 0 (wl 4 y)
  tr : wr.there (w0.heap.size + 1 + 1 + 1) 0 8
  rw : wr.rangeAt bw 0 (wl 8 v)
  tw : wr.there bw 0 8
  gw : Grown w0 wr

theorem alloc4 (w : World) (t t4 : TypeId) (c1 c2 c3 : List Value) (c4 : Array Value) :
    ((((w.alloc (.cells c1.toArray t)).alloc (.cells c2.toArray t)).alloc (.cells c3.toArray t)).alloc (.cells c4 t4)).rangeAt w.heap.size 0 c1 ∧
    ((((w.alloc (.cells c1.toArray t)).alloc (.cells c2.toArray t)).alloc (.cells c3.toArray t)).alloc (.cells c4 t4)).rangeAt (w.heap.size + 1) 0 c2 ∧
    ((((w.alloc (.cells c1.toArray t)).alloc (.cells c2.toArray t)).alloc (.cells c3.toArray t)).alloc (.cells c4 t4)).there (w.heap.size + 1 + 1 + 1) 0 c4.size ∧
    Grown w ((((w.alloc (.cells c1.toArray t)).alloc (.cells c2.toArray t)).alloc (.cells c3.toArray t)).alloc (.cells c4 t4)) ∧
    ((((w.alloc (.cells c1.toArray t)).alloc (.cells c2.toArray t)).alloc (.cells c3.toArray t)).alloc (.cells c4 t4)).heap.size = w.heap.size + 1 + 1 + 1 + 1 := by
  have g1 : ∀ (w : World) (t : TypeId) (a : Array Value), Grown w (w.alloc (.cells a t)) := fun w t a => Grown.alloc (Grown.refl _) _ _
  have s1 : (w.alloc (.cells c1.toArray t)).heap.size = w.heap.size + 1 := by simp
  have b1 := rangeAt_alloc_new w t c1
  have gV1 := g1 w t c1.toArray
  generalize w.alloc (.cells c1.toArray t) = V1 at *
  have s2 : (V1.alloc (.cells c2.toArray t)).heap.size = w.heap.size + 1 + 1 := by simp [s1]
  have b2 := rangeAt_alloc_new V1 t c2
  rw [s1] at b2
  have gV2 := g1 V1 t c2.toArray
  generalize V1.alloc (.cells c2.toArray t) = V2 at *
  have s3 : (V2.alloc (.cells c3.toArray t)).heap.size = w.heap.size + 1 + 1 + 1 := by simp [s2]
  have gV3 := g1 V2 t c3.toArray
  generalize V2.alloc (.cells c3.toArray t) = V3 at *
  have b4 := there_alloc_new V3 t4 c4 c4.size (Nat.le_refl _)
  rw [s3] at b4
  have g23 := grown_trans gV3 (g1 V3 t4 c4)
  exact ⟨rangeAt_grown (rangeAt_grown b1 gV2) g23, rangeAt_grown b2 g23, b4, grown_trans (grown_trans gV1 gV2) g23, by simp [s3]⟩

set_option maxRecDepth 100000 in
set_option maxHeartbeats 4000000 in
theorem times_num (x y z : Nat) (hx : x < M) (hy : y < M) (hz : z < M) (w : World) : Calls Tryd.prog 45 #[wv 4 x, wv 4 y, wv 4 z] w fun e w' => e = .returned (wv 8 (x * y + z)) ∧ Grown w w' := by
  have h0 := alloc4 w 62 66 (wl 4 x) (wl 4 y) (wl 4 z) #[Value.int IntKind.u64 0, Value.int IntKind.u64 0, Value.int IntKind.u64 0, Value.int IntKind.u64 0, Value.int IntKind.u64 0, Value.int IntKind.u64 0, Value.int IntKind.u64 0, Value.int IntKind.u64 0]
  have z0 : (wl 4 z)[0]? = some (.int .u64 (dg B z 0 : Nat)) := wl_get 4 z 0 (by decide)
  have z1 : (wl 4 z)[1]? = some (.int .u64 (dg B z 1 : Nat)) := wl_get 4 z 1 (by decide)
  have z2 : (wl 4 z)[2]? = some (.int .u64 (dg B z 2 : Nat)) := wl_get 4 z 2 (by decide)
  have z3 : (wl 4 z)[3]? = some (.int .u64 (dg B z 3 : Nat)) := wl_get 4 z 3 (by decide)
  rw [wv, wv, wv]
  go_enter Tryd.func45, Tryd.ntmps45
  go_wp2_with (with_reducible show wpList _ _ _ ({ dst := _, op := Op.store 84 _ _, type := _, pos := _, after := _, guard := _ } :: _) _ _; refine Shut.out ?_)
  show wpList _ _ _ _ _ _
  generalize ((((w.alloc (Obj.cells (wl 4 x).toArray 62)).alloc (Obj.cells (wl 4 y).toArray 62)).alloc (Obj.cells (wl 4 z).toArray 62)).alloc (Obj.cells #[Value.int IntKind.u64 0, Value.int IntKind.u64 0, Value.int IntKind.u64 0, Value.int IntKind.u64 0, Value.int IntKind.u64 0, Value.int IntKind.u64 0, Value.int IntKind.u64 0, Value.int IntKind.u64 0] 66)) = W0 at *
  obtain ⟨r1, r2, t3, g0, s0⟩ := h0
  refine wpList_store_newW z (by simp) rfl rfl (by rw [s0]; rfl) (by rw [wv, wl8_of hz]; rfl) (fun w2 hg2 hr2 ht2 => ?_)
  rw [s0] at hr2 ht2
  simp only [Act.put]
  apply wpList_nil
  have H0 := Hid.of (show TX w (w.heap.size + 1 + 1 + 1 + 1) x y (z + x % B ^ 0 * y) w2 from ⟨rangeAt_grown r1 hg2, rangeAt_grown r2 hg2, there_grown t3 hg2, by rw [Nat.pow_zero, Nat.mod_one, Nat.zero_mul, Nat.add_zero]; exact hr2, ht2, grown_trans g0 hg2⟩)
  clear r1 r2 t3 g0 s0 hg2 hr2 ht2 z0 z1 z2 z3
  go_wp2
  go_loopw [23] (fun v23 wr => ∃ i : Nat, v23 = .int .i64 (i : Int) ∧ i ≤ 4 ∧ TX w (w.heap.size + 1 + 1 + 1 + 1) x y (z + x % B ^ i * y) wr) (fun v23 _ => 4 - (intOf v23).toNat)
  case atStart => exact ⟨0, rfl, by decide, H0.out⟩
  case round =>
    obtain ⟨i, rfl, hi, hT⟩ := hrel
    clear H0
    by_cases hlt : i < 4
    · have b1 : (i : Int) < 4 := by omega
      have HS := Hid.of (show z + x % B ^ i * y < B ^ (i + 4) from times_lt hy hz)
      have HN := Hid.of (times_next x y z i)
      have hxi : dg B x i < B := dg_lt B_pos
      have HX := Hid.of (show (wl 4 x)[i]? = some (.int .u64 (dg B x i : Nat)) from wl_get 4 x i hlt)
      have HT := Hid.of hT
      clear hT
      generalize z + x % B ^ i * y = S at *
      generalize dg B x i = xi at *
      go_wp2
      go_loopw [9, 26] (fun v9 v26 wr => ∃ j v c : Nat, v26 = .int .i64 (j : Int) ∧ v9 = .int .u64 (c : Int) ∧ j ≤ 4 ∧ v + c * B ^ (i + j) = S + xi * (y % B ^ j) * B ^ i ∧ v < B ^ (i + 4) ∧ c < B ∧ TX w (w.heap.size + 1 + 1 + 1 + 1) x y v wr) (fun _ v26 _ => 4 - (intOf v26).toNat)
      case atStart => exact ⟨0, S, 0, rfl, rfl, by decide, by rw [Nat.zero_mul, Nat.pow_zero, Nat.mod_one, Nat.mul_zero, Nat.zero_mul], HS.out, B_pos, HT.out⟩
      case round =>
        obtain ⟨j, v, c, rfl, rfl, hj, eq, hv, hc, hT⟩ := hrel
        clear HT
        by_cases hjt : j < 4
        · have b2 : (j : Int) < 4 := by omega
          have d1 : wr.cell? ⟨w.heap.size, i, none⟩ = some (.int .u64 (xi : Nat)) := by
            have := hT.rx i _ HX.out; rwa [Nat.zero_add] at this
          have d2 : wr.cell? ⟨w.heap.size + 1, j, none⟩ = some (.int .u64 (dg B y j : Nat)) := by
            have := hT.ry j _ (wl_get 4 y j hjt); rwa [Nat.zero_add] at this
          have d3 : wr.cell? ⟨w.heap.size + 1 + 1 + 1 + 1, i + j, none⟩ = some (.int .u64 (dg B v (i + j) : Nat)) := by
            have := hT.rw (i + j) _ (wl_get 8 v (i + j) (by omega)); rwa [Nat.zero_add] at this
          have d4 : wr.frozen? ⟨w.heap.size + 1 + 1 + 1 + 1, i + j, none⟩ = false := by
            have := (hT.tw (i + j) (by omega)).2; rwa [Nat.zero_add] at this
          have l1 := times_step eq
          have hyj : dg B y j < B := dg_lt B_pos
          have hwd : dg B v (i + j) < B := dg_lt B_pos
          have hmul := fun w => mul64 xi (dg B y j) hxi hyj w
          obtain ⟨m1, m2, m3, m4⟩ := mul_word (xi * dg B y j) (dg B v (i + j)) c (mul_le hxi hyj) hwd hc
          have hst := fun z (hz : z < B) => st_lt (n := i + 4) (k := i + j) B_pos hz (by omega) hv
          have hs : (dg B v (i + j) + (xi * dg B y j + c)) % B < B := Nat.mod_lt _ B_pos
          have hst' := hst _ hs
          have hc2 : ∀ w, (callFunc 62 #[.int .u64 ((xi * dg B y j % 18446744073709551616 : Nat) : Int), .int .u64 (dg B v (i + j) : Nat), .int .u64 0]).run Tryd.prog w = .ok (.value (.tuple #[.int .u64 (((xi * dg B y j % 18446744073709551616 + dg B v (i + j)) % 18446744073709551616 : Nat) : Int), .int .u64 (((xi * dg B y j % 18446744073709551616 + dg B v (i + j)) / 18446744073709551616 : Nat) : Int)])) w := fun w => add64 _ _ 0 (by decide) w
          have hc3 : ∀ w, (callFunc 62 #[.int .u64 (((xi * dg B y j % 18446744073709551616 + dg B v (i + j)) % 18446744073709551616 : Nat) : Int), .int .u64 (c : Int), .int .u64 0]).run Tryd.prog w = .ok (.value (.tuple #[.int .u64 ((((xi * dg B y j % 18446744073709551616 + dg B v (i + j)) % 18446744073709551616 + c) % 18446744073709551616 : Nat) : Int), .int .u64 ((((xi * dg B y j % 18446744073709551616 + dg B v (i + j)) % 18446744073709551616 + c) / 18446744073709551616 : Nat) : Int)])) w := fun w => add64 _ _ 0 (by decide) w
          have l1' : st B v (i + j) ((dg B v (i + j) + (xi * dg B y j + c)) % 18446744073709551616) + (dg B v (i + j) + (xi * dg B y j + c)) / 18446744073709551616 * B ^ (i + (j + 1)) = S + xi * (y % B ^ (j + 1)) * B ^ i := l1
          have hst2 : st B v (i + j) ((dg B v (i + j) + (xi * dg B y j + c)) % 18446744073709551616) < B ^ (i + 4) := hst'
          have hs2 : (dg B v (i + j) + (xi * dg B y j + c)) % 18446744073709551616 < B := hs
          have m4' : (dg B v (i + j) + (xi * dg B y j + c)) / 18446744073709551616 < B := m4
          clear l1 hst hst' hs m4
          rw [m3] at hc3
          generalize (dg B v (i + j) + (xi * dg B y j + c)) % 18446744073709551616 = rr at *
          generalize (dg B v (i + j) + (xi * dg B y j + c)) / 18446744073709551616 = cc at *
          generalize ((xi * dg B y j % 18446744073709551616 + dg B v (i + j)) % 18446744073709551616 + c) / 18446744073709551616 = o2 at *
          generalize (xi * dg B y j % 18446744073709551616 + dg B v (i + j)) / 18446744073709551616 = o1 at *
          generalize (xi * dg B y j % 18446744073709551616 + dg B v (i + j)) % 18446744073709551616 = lo2 at *
          generalize xi * dg B y j % 18446744073709551616 = lo at *
          generalize xi * dg B y j / 18446744073709551616 = hi1 at *
          generalize dg B v (i + j) = wd at *
          generalize dg B y j = yj at *
          have w1 : IntKind.u64.wrap ((hi1 : Int) + (o1 : Int)) = ((hi1 + o1 : Nat) : Int) := by rw [IntKind.wrap_u64]; omega
          have w2 : IntKind.u64.wrap (((hi1 + o1 : Nat) : Int) + (o2 : Int)) = (cc : Int) := by
            rw [IntKind.wrap_u64]
            have : cc < 18446744073709551616 := m4'
            omega
          generalize hi1 + o1 = h2 at *
          have b3 : (i : Int) + (j : Int) < 8 := by omega
          have H1 := Hid.of l1'
          have H2 := Hid.of hst2
          have H3 := Hid.of hs2
          have H4 := Hid.of m4'
          have H5 := Hid.of hT
          clear l1' hst2 hs2 m4' hT eq hv hc m1 m2 m3 hyj hwd
          go_wp2
          go_quiet (first | (go_at_call 63; refine Calls.quiet_of_same (hmul _)))
          go_wp2
          go_roundw
          case rel =>
            refine ⟨j + 1, st B v (i + j) rr, cc, by go_num, rfl, by omega, H1.out, H2.out, H4.out, ?_⟩
            obtain ⟨rx, ry, tr, rw', tw, gw⟩ := H5.out
            exact ⟨range_put rx _ _ (by omega) _, range_put ry _ _ (by omega) _, there_setCell tr _ _, wrange_set rw' H3.out (by omega), there_setCell tw _ _, Grown.setCell gw (by show _ ≤ w.heap.size + 1 + 1 + 1 + 1; omega) _⟩
          case measure => simp [intOf]; omega
        · have hj4 : j = 4 := by omega
          subst hj4
          have l1 := times_top eq hv hy
          have d3 : wr.cell? ⟨w.heap.size + 1 + 1 + 1 + 1, i + 4, none⟩ = some (.int .u64 (dg B v (i + 4) : Nat)) := by
            have := hT.rw (i + 4) _ (wl_get 8 v (i + 4) (by omega)); rwa [Nat.zero_add] at this
          have d4 : wr.frozen? ⟨w.heap.size + 1 + 1 + 1 + 1, i + 4, none⟩ = false := by
            have := (hT.tw (i + 4) (by omega)).2; rwa [Nat.zero_add] at this
          generalize dg B v (i + 4) = wd at *
          have b3 : (i : Int) + 4 < 8 := by omega
          have H1 := Hid.of l1
          have H2 := Hid.of hc
          have H5 := Hid.of hT
          clear l1 hc hT eq hv hj hjt
          go_wp2
          go_roundw
          case rel =>
            refine ⟨i + 1, by go_num, by omega, ?_⟩
            rw [← HN.out, ← H1.out]
            obtain ⟨rx, ry, tr, rw', tw, gw⟩ := H5.out
            exact ⟨range_put rx _ _ (by omega) _, range_put ry _ _ (by omega) _, there_setCell tr _ _, wrange_set rw' H2.out (by omega), there_setCell tw _ _, Grown.setCell gw (by show _ ≤ w.heap.size + 1 + 1 + 1 + 1; omega) _⟩
          case measure => simp [intOf]; omega
    · have hi4 : i = 4 := by omega
      subst hi4
      obtain ⟨v, hv⟩ : ∃ v, v = x * y + z := ⟨_, rfl⟩
      rw [B4, Nat.mod_eq_of_lt hx, show z + x * y = v by omega] at hT
      have hv' := Hid.of hv
      clear hv
      have H := Hid.of hT
      clear hT hi hlt
      go_wp2
      refine wp_region_noPanic ?_
      refine wp_region_held_drew (S := fun w' => w'.rangeAt (w.heap.size + 1 + 1 + 1 + 1) 0 (wl 8 v) ∧ w'.there (w.heap.size + 1 + 1 + 1) 0 8 ∧ Grown w w') (by kernel_rfl) ⟨H.out.rw, H.out.tr, H.out.gw⟩ (fun hH => ?_)
      refine takeV 0 (.slice (some ⟨w.heap.size + 1 + 1 + 1 + 1, 0, none⟩) 4 8) rfl (by kernel_rfl) (by kernel_rfl) (by kernel_rfl) (fun _ _ _ h => h) (by rfl) (fun _ _ => by kernel_rfl) hH ?_
      simp only [Act.put, List.setIfInBounds_toArray, List.set_cons_zero, List.set_cons_succ]
      refine takeV 1 (.pointer (some ⟨w.heap.size + 1 + 1 + 1 + 1, 0, none⟩)) rfl (by kernel_rfl) (by kernel_rfl) (by kernel_rfl) (fun _ _ _ h => h) (by rfl) (fun _ _ => by kernel_rfl) hH ?_
      simp only [Act.put, List.setIfInBounds_toArray, List.set_cons_zero, List.set_cons_succ]
      refine takeN 2 (v % M) (w.heap.size + 1 + 1 + 1 + 1) 0 rfl (by kernel_rfl) (by kernel_rfl) (by kernel_rfl) (fun _ _ _ h => h) (by rfl) rfl rfl (fun _ h => range_low h.1) hH ?_
      simp only [Act.put, List.setIfInBounds_toArray, List.set_cons_zero, List.set_cons_succ]
      refine takeV 3 (.slice (some ⟨w.heap.size + 1 + 1 + 1 + 1, 4, none⟩) 4 4) rfl (by kernel_rfl) (by kernel_rfl) (by kernel_rfl) (fun _ _ _ h => h) (by rfl) (fun _ _ => by kernel_rfl) hH ?_
      simp only [Act.put, List.setIfInBounds_toArray, List.set_cons_zero, List.set_cons_succ]
      refine takeV 4 (.pointer (some ⟨w.heap.size + 1 + 1 + 1 + 1, 4, none⟩)) rfl (by kernel_rfl) (by kernel_rfl) (by kernel_rfl) (fun _ _ _ h => h) (by rfl) (fun _ _ => by kernel_rfl) hH ?_
      simp only [Act.put, List.setIfInBounds_toArray, List.set_cons_zero, List.set_cons_succ]
      refine takeN 5 (v / M) (w.heap.size + 1 + 1 + 1 + 1) 4 rfl (by kernel_rfl) (by kernel_rfl) (by kernel_rfl) (fun _ _ _ h => h) (by rfl) rfl rfl (fun _ h => range_high h.1) hH ?_
      simp only [Act.put, List.setIfInBounds_toArray, List.set_cons_zero, List.set_cons_succ]
      refine takeV 6 (wv 8 v) rfl (by kernel_rfl) (by kernel_rfl) (by kernel_rfl) (fun _ _ _ h => h) (by rfl) (fun _ _ => build_prod rfl rfl rfl) hH ?_
      simp only [Act.put, List.setIfInBounds_toArray, List.set_cons_zero, List.set_cons_succ]
      refine step1 7 (by kernel_rfl) rfl (fun K hK => ?_)
      refine storeR 66 (wl 8 v) (w.heap.size + 1 + 1 + 1) rfl (by rfl) rfl rfl (by rw [wl_length]; exact hH.2.1) (by rw [wl_length]; exact infoP) (wl_one 8 v) ?_
      simp only [Act.put]
      refine hK.out _ _ ⟨World.rangeAt_setCells_apart hH.1 _ _ _ (by left; omega), World.there_setCells hH.2.1 _ _ _, grown_setCells (by omega) _ _ hH.2.2⟩ (fun _ => ?_)
      clear hK K
      refine wpAnyH_done (by kernel_rfl) ?_ _
      refine NoPanic.normal ?_
      repeat go_step
      refine bodyPost_ret (v := wv 8 v) (resultP Tryd.results45 _ _ (w.heap.size + 1 + 1 + 1) v ?hp (World.rangeAt_setCells_same _ _ _ _ (by rw [wl_length]; exact hH.2.1))) ?hd ?_
      case hp => rfl
      case hd => rfl
      exact ⟨by rw [hv'.out], grown_setCells (by omega) _ _ hH.2.2⟩
end Go.Proofs.YteijccjdejjbjaaDoor
namespace Go.Proofs.YteijccjdejjbjaaDoor
open Go.RowKit Go.Shelf ScalarNum

/-- the answers, under names -/
def sred (x : Nat) : Nat := x % L
def sadd (x y : Nat) : Nat := (x + y) % L
def sneg (x : Nat) : Nat := (L - x % L) % L
def smad (x y z : Nat) : Nat := (x * y + z) % L
theorem L_lt_M : L < M := by decide
theorem modL_lt (x : Nat) : x % L < L := Nat.mod_lt _ (by decide)
theorem modL_ltM (x : Nat) : x % L < M := Nat.lt_trans (modL_lt x) L_lt_M
theorem sred_lt (x : Nat) : sred x < M := modL_ltM _
theorem sadd_lt (x y : Nat) : sadd x y < M := modL_ltM _
theorem sneg_lt (x : Nat) : sneg x < M := modL_ltM _
theorem smad_lt (x y z : Nat) : smad x y z < M := modL_ltM _
theorem timesM {x y z : Nat} (hx : x < M) (hy : y < M) (hz : z < M) : x * y + z < M * M := by
  have h1 : x * y ≤ (M - 1) * M := Nat.mul_le_mul (by omega) (Nat.le_of_lt hy)
  have h2 : (M - 1) * M + M = M * M := by decide
  omega

theorem alloc1 (w : World) (t : TypeId) (c : Array Value) : (w.alloc (.cells c t)).there w.heap.size 0 c.size ∧ Grown w (w.alloc (.cells c t)) :=
  ⟨there_alloc_new w t c c.size (Nat.le_refl _), Grown.alloc (Grown.refl _) _ _⟩

set_option maxRecDepth 100000 in
set_option maxHeartbeats 1000000 in
theorem Order_num (w : World) (hT : Tab w) : Calls Tryd.prog 22 #[] w fun e w' => e = .returned (yv 32 L) ∧ Grown w w' := by
  have h0 := alloc1 w 23 (yl 32 0).toArray
  rw [show (yl 32 0).toArray.size = 32 from rfl] at h0
  have HT := Hid.of hT
  clear hT
  go_enter Tryd.func22, Tryd.ntmps22
  go_wp2_with (with_reducible show wpList _ _ _ ({ dst := _, op := Op.load 62 _, type := _, pos := _, after := _, guard := _ } :: _) _ _; refine Shut.out ?_)
  show wpList _ _ _ _ _ _
  rw [← yl32_zero]
  generalize (w.alloc (.cells (yl 32 0).toArray 23)) = W0 at *
  have H0 := Hid.of h0
  clear h0
  refine wpList_loadNo rfl _ rfl 0 4 ?hp2 L ?hr2 ?_
  case hp2 => go_simp
  case hr2 => have := (HT.out.grown H0.out.2) 1 (by decide); rwa [Nat.one_mul, Nat.one_mul, Nat.mod_eq_of_lt (by decide)] at this
  simp only [Act.put, List.setIfInBounds_toArray, List.set_cons_zero, List.set_cons_succ]
  go_wp2_with fail
  refine Calls.mono (bytes_num L L_lt_M _) ?_
  rintro e w1 ⟨rfl, g1⟩
  dsimp only
  have H1 := Hid.of (And.intro (there_grown H0.out.1 g1) (grown_trans H0.out.2 g1))
  clear H0 g1
  go_wp2_with (with_reducible show wpList _ _ _ ({ dst := _, op := Op.store 23 _ _, type := _, pos := _, after := _, guard := _ } :: _) _ _; refine Shut.out ?_)
  show wpList _ _ _ _ _ _
  refine wpList_store32 rfl _ _ rfl (w.heap.size) (L) rfl rfl (H1.out.1) ?_
  simp only [Act.put]
  apply wpList_nil
  repeat go_step
  refine bodyPost_ret (v := yv 32 (L)) (result32 Tryd.results22 _ _ (w.heap.size) _ ?hp (World.rangeAt_setCells_same _ _ _ _ (by rw [yl_length]; exact H1.out.1))) ?hd ?_
  case hp => rfl
  case hd => rfl
  exact ⟨rfl, grown_setCells (by omega) _ _ (H1.out.2)⟩

set_option maxRecDepth 100000 in
set_option maxHeartbeats 1000000 in
theorem Neg_num (x : Nat) (hx : x < M) (w : World) (hT : Tab w) : Calls Tryd.prog 25 #[yv 32 x] w fun e w' => e = .returned (yv 32 (sneg x)) ∧ Grown w w' := by
  have h0 := alloc2 w 23 23 (yl 32 x) (yl 32 0).toArray
  rw [show (yl 32 0).toArray.size = 32 from rfl] at h0
  have HT := Hid.of hT
  clear hT
  rw [yv]
  go_enter Tryd.func25, Tryd.ntmps25
  go_wp2_with (with_reducible show wpList _ _ _ ({ dst := _, op := Op.load 23 _, type := _, pos := _, after := _, guard := _ } :: _) _ _; refine Shut.out ?_)
  show wpList _ _ _ _ _ _
  rw [← yl32_zero]
  generalize ((w.alloc (.cells (yl 32 x).toArray 23)).alloc (.cells (yl 32 0).toArray 23)) = W0 at *
  have H0 := Hid.of h0
  clear h0
  refine wpList_load32 rfl _ rfl w.heap.size rfl x H0.out.1 ?_
  simp only [Act.put, List.setIfInBounds_toArray, List.set_cons_zero, List.set_cons_succ]
  go_wp2_with fail
  refine Calls.mono (load_num x hx _) ?_
  rintro e w1 ⟨rfl, g1⟩
  dsimp only
  go_wp2_with fail
  refine Calls.mono (reduced_num x hx _ ((HT.out.grown H0.out.2.2.2).grown g1)) ?_
  rintro e w2 ⟨rfl, g2⟩
  dsimp only
  go_wp2_with fail
  refine Calls.mono (negated_num (x % L) (modL_lt x) _ (((HT.out.grown H0.out.2.2.2).grown g1).grown g2)) ?_
  rintro e w3 ⟨rfl, g3⟩
  dsimp only
  go_wp2_with fail
  refine Calls.mono (bytes_num _ (modL_ltM _) _) ?_
  rintro e w4 ⟨rfl, g4⟩
  dsimp only
  have gg := grown_trans g1 (grown_trans g2 (grown_trans g3 g4))
  have H1 := Hid.of (And.intro (there_grown H0.out.2.2.1 gg) (grown_trans H0.out.2.2.2 gg))
  clear H0 g1 g2 g3 g4 gg
  rw [show (L - x % L) % L = sneg x from rfl]
  go_wp2_with (with_reducible show wpList _ _ _ ({ dst := _, op := Op.store 23 _ _, type := _, pos := _, after := _, guard := _ } :: _) _ _; refine Shut.out ?_)
  show wpList _ _ _ _ _ _
  refine wpList_store32 rfl _ _ rfl (w.heap.size + 1) (sneg x) rfl rfl (H1.out.1) ?_
  simp only [Act.put]
  apply wpList_nil
  repeat go_step
  refine bodyPost_ret (v := yv 32 (sneg x)) (result32 Tryd.results25 _ _ (w.heap.size + 1) _ ?hp (World.rangeAt_setCells_same _ _ _ _ (by rw [yl_length]; exact H1.out.1))) ?hd ?_
  case hp => rfl
  case hd => rfl
  exact ⟨rfl, grown_setCells (by omega) _ _ (H1.out.2)⟩
end Go.Proofs.YteijccjdejjbjaaDoor
namespace Go.Proofs.YteijccjdejjbjaaDoor
open Go.RowKit Go.Shelf ScalarNum

theorem alloc3b (w : World) (t : TypeId) (c1 c2 : List Value) (c3 : Array Value) :
    (((w.alloc (.cells c1.toArray t)).alloc (.cells c2.toArray t)).alloc (.cells c3 t)).rangeAt w.heap.size 0 c1 ∧
    (((w.alloc (.cells c1.toArray t)).alloc (.cells c2.toArray t)).alloc (.cells c3 t)).rangeAt (w.heap.size + 1) 0 c2 ∧
    (((w.alloc (.cells c1.toArray t)).alloc (.cells c2.toArray t)).alloc (.cells c3 t)).there (w.heap.size + 1 + 1) 0 c3.size ∧
    Grown w (((w.alloc (.cells c1.toArray t)).alloc (.cells c2.toArray t)).alloc (.cells c3 t)) := by
  have g1 : ∀ (w : World) (t : TypeId) (a : Array Value), Grown w (w.alloc (.cells a t)) := fun w t a => Grown.alloc (Grown.refl _) _ _
  have s1 : (w.alloc (.cells c1.toArray t)).heap.size = w.heap.size + 1 := by simp
  have b1 := rangeAt_alloc_new w t c1
  have gV1 := g1 w t c1.toArray
  generalize w.alloc (.cells c1.toArray t) = V1 at *
  have s2 : (V1.alloc (.cells c2.toArray t)).heap.size = w.heap.size + 1 + 1 := by simp [s1]
  have b2 := rangeAt_alloc_new V1 t c2
  rw [s1] at b2
  have gV2 := g1 V1 t c2.toArray
  generalize V1.alloc (.cells c2.toArray t) = V2 at *
  have b3 := there_alloc_new V2 t c3 c3.size (Nat.le_refl _)
  rw [s2] at b3
  exact ⟨rangeAt_grown (rangeAt_grown b1 gV2) (g1 _ _ _), rangeAt_grown b2 (g1 _ _ _), b3, grown_trans (grown_trans gV1 gV2) (g1 _ _ _)⟩

theorem sum2 (x y : Nat) : (x % L + y % L) % M = x % L + y % L ∧ (x % L + y % L) % L = sadd x y ∧ x % L + y % L < M := by
  have h1 := modL_lt x
  have h2 := modL_lt y
  have h3 : L + L < M := by decide
  exact ⟨Nat.mod_eq_of_lt (by omega), by rw [← Nat.add_mod]; rfl, by omega⟩

set_option maxRecDepth 100000 in
set_option maxHeartbeats 1000000 in
theorem Add_num (x y : Nat) (hx : x < M) (hy : y < M) (w : World) (hT : Tab w) : Calls Tryd.prog 19 #[yv 32 x, yv 32 y] w fun e w' => e = .returned (yv 32 (sadd x y)) ∧ Grown w w' := by
  have h0 := alloc3b w 23 (yl 32 x) (yl 32 y) (yl 32 0).toArray
  rw [show (yl 32 0).toArray.size = 32 from rfl] at h0
  have HT := Hid.of hT
  have hsz := hT.lt
  clear hT
  rw [yv, yv]
  go_enter Tryd.func19, Tryd.ntmps19
  go_wp2_with (with_reducible show wpList _ _ _ ({ dst := _, op := Op.load 23 _, type := _, pos := _, after := _, guard := _ } :: _) _ _; refine Shut.out ?_)
  show wpList _ _ _ _ _ _
  rw [← yl32_zero]
  generalize (((w.alloc (.cells (yl 32 x).toArray 23)).alloc (.cells (yl 32 y).toArray 23)).alloc (.cells (yl 32 0).toArray 23)) = W0 at *
  have H0 := Hid.of h0
  clear h0
  refine wpList_load32 rfl _ rfl w.heap.size rfl x H0.out.1 ?_
  simp only [Act.put, List.setIfInBounds_toArray, List.set_cons_zero, List.set_cons_succ]
  go_wp2_with fail
  refine Calls.mono (load_num x hx _) ?_
  rintro e w1 ⟨rfl, g1⟩
  dsimp only
  go_wp2_with fail
  refine Calls.mono (reduced_num x hx _ ((HT.out.grown H0.out.2.2.2).grown g1)) ?_
  rintro e w2 ⟨rfl, g2⟩
  dsimp only
  have gg := grown_trans g1 g2
  have H1 := Hid.of (And.intro (rangeAt_grown H0.out.2.1 gg) (And.intro (there_grown H0.out.2.2.1 gg) (grown_trans H0.out.2.2.2 gg)))
  clear H0 g1 g2 gg
  have hlt : w.heap.size + 1 + 1 < w2.heap.size := there_lt H1.out.2.1 (by decide)
  go_wp2_with (with_reducible show wpList _ _ _ ({ dst := _, op := Op.store 62 _ _, type := _, pos := _, after := _, guard := _ } :: _) _ _; refine Shut.out ?_)
  show wpList _ _ _ _ _ _
  refine wpList_store_newN (x % L) (by simp) rfl rfl rfl rfl (fun w3 hg3 hr3 ht3 => ?_)
  simp only [Act.put]
  apply wpList_nil
  have H2 := Hid.of (And.intro (rangeAt_grown H1.out.1 hg3) (And.intro (there_grown H1.out.2.1 hg3) (And.intro (grown_trans H1.out.2.2 hg3) (And.intro hr3 ht3))))
  clear H1 hg3 hr3 ht3
  generalize w2.heap.size = bs at *
  go_wp2_with (with_reducible show wpList _ _ _ ({ dst := _, op := Op.load 23 _, type := _, pos := _, after := _, guard := _ } :: _) _ _; refine Shut.out ?_)
  show wpList _ _ _ _ _ _
  refine wpList_load32 rfl _ rfl (w.heap.size + 1) rfl y H2.out.1 ?_
  simp only [Act.put, List.setIfInBounds_toArray, List.set_cons_zero, List.set_cons_succ]
  go_wp2_with fail
  refine Calls.mono (load_num y hy _) ?_
  rintro e w4 ⟨rfl, g4⟩
  dsimp only
  go_wp2_with fail
  refine Calls.mono (reduced_num y hy _ ((HT.out.grown H2.out.2.2.1).grown g4)) ?_
  rintro e w5 ⟨rfl, g5⟩
  dsimp only
  have gg := grown_trans g4 g5
  have H3 := Hid.of (And.intro (there_grown H2.out.2.1 gg) (And.intro (grown_trans H2.out.2.2.1 gg) (And.intro (rangeAt_grown H2.out.2.2.2.1 gg) (there_grown H2.out.2.2.2.2 gg))))
  clear H2 g4 g5 gg
  go_wp2_with fail
  refine Calls.mono (add_num bs (x % L) (y % L) (modL_ltM _) (modL_ltM _) _ H3.out.2.2.1 H3.out.2.2.2) ?_
  rintro e w6 ⟨rfl, g6, r6, t6⟩
  obtain ⟨s1, s2, s3⟩ := sum2 x y
  rw [s1] at r6
  dsimp only
  have H4 := Hid.of (And.intro (g6.there H3.out.1 (by omega)) (And.intro (GB.own H3.out.2.1 (by omega) g6) r6))
  clear H3 g6 r6 t6 s1
  go_wp2_with (with_reducible show wpList _ _ _ ({ dst := _, op := Op.load 62 _, type := _, pos := _, after := _, guard := _ } :: _) _ _; refine Shut.out ?_)
  show wpList _ _ _ _ _ _
  refine wpList_loadN rfl _ rfl bs rfl (x % L + y % L) H4.out.2.2 ?_
  simp only [Act.put, List.setIfInBounds_toArray, List.set_cons_zero, List.set_cons_succ]
  go_wp2_with fail
  refine Calls.mono (reduced_num _ s3 _ (HT.out.grown H4.out.2.1)) ?_
  rintro e w7 ⟨rfl, g7⟩
  dsimp only
  rw [s2]
  go_wp2_with fail
  refine Calls.mono (bytes_num _ (sadd_lt x y) _) ?_
  rintro e w8 ⟨rfl, g8⟩
  dsimp only
  have gg := grown_trans g7 g8
  have H5 := Hid.of (And.intro (there_grown H4.out.1 gg) (grown_trans H4.out.2.1 gg))
  clear H4 g7 g8 gg s2 s3
  go_wp2_with (with_reducible show wpList _ _ _ ({ dst := _, op := Op.store 23 _ _, type := _, pos := _, after := _, guard := _ } :: _) _ _; refine Shut.out ?_)
  show wpList _ _ _ _ _ _
  refine wpList_store32 rfl _ _ rfl (w.heap.size + 1 + 1) (sadd x y) rfl rfl (H5.out.1) ?_
  simp only [Act.put]
  apply wpList_nil
  repeat go_step
  refine bodyPost_ret (v := yv 32 (sadd x y)) (result32 Tryd.results19 _ _ (w.heap.size + 1 + 1) _ ?hp (World.rangeAt_setCells_same _ _ _ _ (by rw [yl_length]; exact H5.out.1))) ?hd ?_
  case hp => rfl
  case hd => rfl
  exact ⟨rfl, grown_setCells (by omega) _ _ (H5.out.2)⟩
end Go.Proofs.YteijccjdejjbjaaDoor
namespace Go.Proofs.YteijccjdejjbjaaDoor
open Go.RowKit Go.Shelf ScalarNum

theorem alloc4b (w : World) (t : TypeId) (c1 c2 c3 : List Value) (c4 : Array Value) :
    ((((w.alloc (.cells c1.toArray t)).alloc (.cells c2.toArray t)).alloc (.cells c3.toArray t)).alloc (.cells c4 t)).rangeAt w.heap.size 0 c1 ∧
    ((((w.alloc (.cells c1.toArray t)).alloc (.cells c2.toArray t)).alloc (.cells c3.toArray t)).alloc (.cells c4 t)).rangeAt (w.heap.size + 1) 0 c2 ∧
    ((((w.alloc (.cells c1.toArray t)).alloc (.cells c2.toArray t)).alloc (.cells c3.toArray t)).alloc (.cells c4 t)).rangeAt (w.heap.size + 1 + 1) 0 c3 ∧
    ((((w.alloc (.cells c1.toArray t)).alloc (.cells c2.toArray t)).alloc (.cells c3.toArray t)).alloc (.cells c4 t)).there (w.heap.size + 1 + 1 + 1) 0 c4.size ∧
    Grown w ((((w.alloc (.cells c1.toArray t)).alloc (.cells c2.toArray t)).alloc (.cells c3.toArray t)).alloc (.cells c4 t)) := by
  have g1 : ∀ (w : World) (t : TypeId) (a : Array Value), Grown w (w.alloc (.cells a t)) := fun w t a => Grown.alloc (Grown.refl _) _ _
  have s1 : (w.alloc (.cells c1.toArray t)).heap.size = w.heap.size + 1 := by simp
  have b1 := rangeAt_alloc_new w t c1
  have gV1 := g1 w t c1.toArray
  generalize w.alloc (.cells c1.toArray t) = V1 at *
  have s2 : (V1.alloc (.cells c2.toArray t)).heap.size = w.heap.size + 1 + 1 := by simp [s1]
  have b2 := rangeAt_alloc_new V1 t c2
  rw [s1] at b2
  have gV2 := g1 V1 t c2.toArray
  generalize V1.alloc (.cells c2.toArray t) = V2 at *
  have s3 : (V2.alloc (.cells c3.toArray t)).heap.size = w.heap.size + 1 + 1 + 1 := by simp [s2]
  have b3 := rangeAt_alloc_new V2 t c3
  rw [s2] at b3
  have gV3 := g1 V2 t c3.toArray
  generalize V2.alloc (.cells c3.toArray t) = V3 at *
  have b4 := there_alloc_new V3 t c4 c4.size (Nat.le_refl _)
  rw [s3] at b4
  have g23 := grown_trans gV3 (g1 V3 t c4)
  exact ⟨rangeAt_grown (rangeAt_grown b1 gV2) g23, rangeAt_grown b2 g23, rangeAt_grown b3 (g1 _ _ _), b4, grown_trans (grown_trans gV1 gV2) g23⟩

theorem keep4 {W w1 w2 : World} {b1 b2 b3 b4 : Nat} {xs ys zs : List Value} (h : w1.rangeAt b1 0 xs ∧ w1.rangeAt b2 0 ys ∧ w1.rangeAt b3 0 zs ∧ w1.there b4 0 32 ∧ Grown W w1) (hg : Grown w1 w2) :
    w2.rangeAt b1 0 xs ∧ w2.rangeAt b2 0 ys ∧ w2.rangeAt b3 0 zs ∧ w2.there b4 0 32 ∧ Grown W w2 :=
  ⟨rangeAt_grown h.1 hg, rangeAt_grown h.2.1 hg, rangeAt_grown h.2.2.1 hg, there_grown h.2.2.2.1 hg, grown_trans h.2.2.2.2 hg⟩

set_option maxRecDepth 100000 in
set_option maxHeartbeats 1000000 in
theorem MulAdd_num (x y z : Nat) (hx : x < M) (hy : y < M) (hz : z < M) (w : World) (hT : Tab w) : Calls Tryd.prog 20 #[yv 32 x, yv 32 y, yv 32 z] w fun e w' => e = .returned (yv 32 (smad x y z)) ∧ Grown w w' := by
  have h0 := alloc4b w 23 (yl 32 x) (yl 32 y) (yl 32 z) (yl 32 0).toArray
  rw [show (yl 32 0).toArray.size = 32 from rfl] at h0
  have HT := Hid.of hT
  clear hT
  rw [yv, yv, yv]
  go_enter Tryd.func20, Tryd.ntmps20
  go_wp2
  rw [← yl32_zero]
  generalize ((((w.alloc (.cells (yl 32 x).toArray 23)).alloc (.cells (yl 32 y).toArray 23)).alloc (.cells (yl 32 z).toArray 23)).alloc (.cells (yl 32 0).toArray 23)) = W0 at *
  refine wp_region_noPanic ?_
  refine wp_region_held_drew (S := fun w' => w'.rangeAt w.heap.size 0 (yl 32 x) ∧ w'.rangeAt (w.heap.size + 1) 0 (yl 32 y) ∧ w'.rangeAt (w.heap.size + 1 + 1) 0 (yl 32 z) ∧ w'.there (w.heap.size + 1 + 1 + 1) 0 32 ∧ Grown w w') (by kernel_rfl) h0 (fun hH => ?_)
  clear h0
  refine take32 0 (x) (w.heap.size) rfl (by kernel_rfl) (by kernel_rfl) (by kernel_rfl) (fun _ _ _ h => h) (by rfl) rfl rfl (fun _ h => h.1) hH ?_
  simp only [Act.put, List.setIfInBounds_toArray, List.set_cons_zero, List.set_cons_succ]
  refine take32 2 (y) (w.heap.size + 1) rfl (by kernel_rfl) (by kernel_rfl) (by kernel_rfl) (fun _ _ _ h => h) (by rfl) rfl rfl (fun _ h => h.2.1) hH ?_
  simp only [Act.put, List.setIfInBounds_toArray, List.set_cons_zero, List.set_cons_succ]
  refine take32 4 (z) (w.heap.size + 1 + 1) rfl (by kernel_rfl) (by kernel_rfl) (by kernel_rfl) (fun _ _ _ h => h) (by rfl) rfl rfl (fun _ h => h.2.2.1) hH ?_
  simp only [Act.put, List.setIfInBounds_toArray, List.set_cons_zero, List.set_cons_succ]
  refine step1 1 (by kernel_rfl) rfl (fun K hK => ?_)
  go_simp
  refine Calls.mono (load_num x hx _) ?_
  rintro e w1 ⟨rfl, hg1⟩
  dsimp only
  refine hK.out _ _ (keep4 hH hg1) (fun hH => ?_)
  clear hK K
  refine step1 3 (by kernel_rfl) rfl (fun K hK => ?_)
  go_simp
  refine Calls.mono (load_num y hy _) ?_
  rintro e w2 ⟨rfl, hg2⟩
  dsimp only
  refine hK.out _ _ (keep4 hH hg2) (fun hH => ?_)
  clear hK K
  refine step1 5 (by kernel_rfl) rfl (fun K hK => ?_)
  go_simp
  refine Calls.mono (load_num z hz _) ?_
  rintro e w3 ⟨rfl, hg3⟩
  dsimp only
  refine hK.out _ _ (keep4 hH hg3) (fun hH => ?_)
  clear hK K
  refine step1 6 (by kernel_rfl) rfl (fun K hK => ?_)
  go_simp
  refine Calls.mono (times_num x y z hx hy hz _) ?_
  rintro e w4 ⟨rfl, hg4⟩
  dsimp only
  refine hK.out _ _ (keep4 hH hg4) (fun hH => ?_)
  clear hK K
  refine step1 7 (by kernel_rfl) rfl (fun K hK => ?_)
  go_simp
  refine Calls.mono (prod_num (x * y + z) (timesM hx hy hz) _ (HT.out.grown hH.2.2.2.2)) ?_
  rintro e w5 ⟨rfl, hg5⟩
  dsimp only
  refine hK.out _ _ (keep4 hH hg5) (fun hH => ?_)
  clear hK K
  refine step1 8 (by kernel_rfl) rfl (fun K hK => ?_)
  go_simp
  refine Calls.mono (bytes_num _ (modL_ltM _) _) ?_
  rintro e w6 ⟨rfl, hg6⟩
  dsimp only
  refine hK.out _ _ (keep4 hH hg6) (fun hH => ?_)
  clear hK K
  obtain ⟨hr1, hr2, hr3, hth, hgw⟩ := hH
  rw [show (x * y + z) % L = smad x y z from rfl]
  refine step1 9 (by kernel_rfl) rfl (fun K hK => ?_)
  refine store32 (smad x y z) (w.heap.size + 1 + 1 + 1) rfl (by rfl) rfl rfl hth ?_
  simp only [Act.put]
  refine hK.out _ _ ⟨World.rangeAt_setCells_apart hr1 _ _ _ (by left; omega), World.rangeAt_setCells_apart hr2 _ _ _ (by left; omega), World.rangeAt_setCells_apart hr3 _ _ _ (by left; omega), World.there_setCells hth _ _ _, grown_setCells (by omega) _ _ hgw⟩ (fun _ => ?_)
  clear hK K
  refine wpAnyH_done (by kernel_rfl) ?_ _
  refine NoPanic.normal ?_
  repeat go_step
  refine bodyPost_ret (v := yv 32 (smad x y z)) (result32 Tryd.results20 _ _ (w.heap.size + 1 + 1 + 1) _ ?hp (World.rangeAt_setCells_same _ _ _ _ (by rw [yl_length]; exact hth))) ?hd ?_
  case hp => rfl
  case hd => rfl
  exact ⟨rfl, grown_setCells (by omega) _ _ hgw⟩
end Go.Proofs.YteijccjdejjbjaaDoor
