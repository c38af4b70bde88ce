import Derived.Test.YteijccjdejjbjaaDoorNe
import Derived.Test.YteijccjdejjbjaaDoorFo
namespace Go.Proofs.YteijccjdejjbjaaDoor
open Go.RowKit Go.Shelf ScalarNum

theorem dg_mod (v i : Nat) (h : i < 4) : dg B (v % M) i = dg B v i := by
  have e : v = v / M * B ^ 4 + v % M := by rw [B4, Nat.mul_comm]; exact (Nat.div_add_mod v M).symm
  conv => rhs; rw [e, dg_low B_pos _ _ _ _ h]
theorem dg_div (v i : Nat) : dg B (v / M) i = dg B v (4 + i) := by
  unfold dg
  rw [← B4, Nat.div_div_eq_div_mul, ← Nat.pow_add]
theorem range_low {w : World} {b v : Nat} (h : w.rangeAt b 0 (wl 8 v)) : w.rangeAt b 0 (wl 4 (v % M)) := by
  intro j u hj
  have hj4 : j < 4 := by
    have := (List.getElem?_eq_some_iff.1 hj).1; rwa [wl_length] at this
  rw [wl_get 4 _ j hj4, dg_mod v j hj4, ← wl_get 8 v j (by omega)] at hj
  exact h j u hj
theorem range_high {w : World} {b v : Nat} (h : w.rangeAt b 0 (wl 8 v)) : w.rangeAt b 4 (wl 4 (v / M)) := by
  intro j u hj
  have hj4 : j < 4 := by
    have := (List.getElem?_eq_some_iff.1 hj).1; rwa [wl_length] at this
  rw [wl_get 4 _ j hj4, dg_div v j, ← wl_get 8 v (4 + j) (by omega)] at hj
  have := h (4 + j) u hj
  rwa [Nat.zero_add] at this

structure QX (w0 : World) (bx v i : Nat) (wr : World) : Prop where
  rp : wr.rangeAt w0.heap.size 0 (wl 8 v)
  tr : wr.there (w0.heap.size + 1) 0 4
  rx : wr.rangeAt bx 0 (wl 4 ((v / M * 16 ^ i + v % M / 16 ^ (64 - i)) % L))
  tx : wr.there bx 0 4
  gw : Grown w0 wr

theorem and15 (a : Nat) (ha : a < B) : bits .and .u64 (a : Int) 15 = ((a % 16 : Nat) : Int) := by
  have := bits_and_u64_nat a 15 ha (by omega)
  have e : a &&& 15 = a % 16 := Nat.and_two_pow_sub_one_eq_mod a 4
  rw [e] at this
  exact this

set_option maxRecDepth 100000 in
set_option maxHeartbeats 4000000 in
theorem prod_num (v : Nat) (hv : v < M * M) (w : World) (hT : Tab w) : Calls Tryd.prog 40 #[wv 8 v] w fun e w' => e = .returned (wv 4 (v % L)) ∧ Grown w w' := by
  rw [wv]
  have hhM : v / M < M := Nat.div_lt_of_lt_mul hv
  have hlM : v % M < M := Nat.mod_lt _ (by decide)
  have h0 := alloc2 w 66 62 (wl 8 v) #[Value.int IntKind.u64 0, Value.int IntKind.u64 0, Value.int IntKind.u64 0, Value.int IntKind.u64 0]
  go_enter Tryd.func40, Tryd.ntmps40
  go_wp2_with (with_reducible show wpList _ _ _ ({ dst := _, op := Op.load 62 _, type := _, pos := _, after := _, guard := _ } :: _) _ _; refine Shut.out ?_)
  show wpList _ _ _ _ _ _
  generalize ((w.alloc (Obj.cells (wl 8 v).toArray 66)).alloc (Obj.cells #[Value.int IntKind.u64 0, Value.int IntKind.u64 0, Value.int IntKind.u64 0, Value.int IntKind.u64 0] 62)) = W0 at *
  obtain ⟨r0, t0, t1, g0⟩ := h0
  have hsz := hT.lt
  have HT := Hid.of hT
  have HX := Hid.of (And.intro r0 (And.intro (show W0.there (w.heap.size + 1) 0 4 from t1) g0))
  clear r0 t0 t1 g0 hT
  refine wpList_loadNo rfl _ rfl w.heap.size 4 ?hp1 (v / M) (range_high HX.out.1) ?_
  case hp1 => go_simp
  simp only [Act.put, List.setIfInBounds_toArray, List.set_cons_zero, List.set_cons_succ]
  go_wp2_with fail
  refine Calls.mono (reduced_num (v / M) hhM _ (HT.out.grown HX.out.2.2)) ?_
  rintro e w1 ⟨rfl, g1⟩
  have HX1 := Hid.of (And.intro (rangeAt_grown HX.out.1 g1) (And.intro (there_grown HX.out.2.1 g1) (grown_trans HX.out.2.2 g1)))
  have hlt1 : w.heap.size + 1 < w1.heap.size := there_lt HX1.out.2.1 (by decide)
  clear HX g1
  dsimp only
  go_wp2_with (with_reducible show wpList _ _ _ ({ dst := _, op := Op.store 62 _ _, type := _, pos := _, after := _, guard := _ } :: _) _ _; refine Shut.out ?_)
  show wpList _ _ _ _ _ _
  refine wpList_store_newN (v / M % L) (by simp) rfl rfl rfl rfl (fun w2 hg2 hr2 ht2 => ?_)
  simp only [Act.put]
  apply wpList_nil
  have hP0 : QX w w1.heap.size v 0 w2 := ⟨rangeAt_grown HX1.out.1 hg2, there_grown HX1.out.2.1 hg2, by
    rw [Nat.pow_zero, Nat.mul_one, Nat.sub_zero, Nat.div_eq_of_lt (show v % M < 16 ^ 64 from by rw [show (16 : Nat) ^ 64 = M from by decide]; exact hlM), Nat.add_zero]; exact hr2, ht2, grown_trans HX1.out.2.2 hg2⟩
  have H0 := Hid.of hP0
  clear hP0 hr2 ht2 HX1 hg2
  generalize w1.heap.size = bx at *
  go_wp2
  go_loopw [8] (fun v8 wr => ∃ i : Nat, v8 = .int .i64 (i : Int) ∧ i ≤ 64 ∧ QX w bx v i wr) (fun v8 _ => 64 - (intOf v8).toNat)
  case atStart => exact ⟨0, rfl, by decide, H0.out⟩
  case round =>
    obtain ⟨i, rfl, hi, hQ⟩ := hrel
    clear H0
    by_cases hlt : i < 64
    · have c1 : wr.cell? ⟨w.heap.size, 3 - i / 16, none⟩ = some (.int .u64 (dg B (v % M) (3 - i / 16) : Nat)) := by
        have := (range_low hQ.rp) (3 - i / 16) _ (wl_get 4 _ _ (by omega)); rwa [Nat.zero_add] at this
      have l1 := hx_word (v % M) i hlt
      have l2 := hx_step L (v / M) (v % M) i hlt
      have l3 : hx (v % M) i < 16 := Nat.mod_lt _ (by decide)
      have hw1 : dg B (v % M) (3 - i / 16) < B := dg_lt B_pos
      have hw2 : dg B (v % M) (3 - i / 16) / 2 ^ (60 - i % 16 * 4) < B := Nat.lt_of_le_of_lt (Nat.div_le_self _ _) hw1
      have ha := and15 _ hw2
      rw [l1] at ha
      generalize dg B (v % M) (3 - i / 16) = wd at *
      generalize hx (v % M) i = dd at *
      have ha' : bits .and .u64 ((wd : Int) / 2 ^ (60 - i % 16 * 4)) 15 = (dd : Int) := by
        have := ha
        simpa using this
      clear ha
      have b1 : (i : Int) < 64 := by omega
      have e1 : (3 : Int) - (i : Int) / 16 = ((3 - i / 16 : Nat) : Int) := by omega
      have e2 : (60 : Int) - (i : Int) % 16 * 4 = ((60 - i % 16 * 4 : Nat) : Int) := by omega
      have H1 := Hid.of l2
      have H2 := Hid.of l3
      have HQ := Hid.of hQ
      clear l1 l2 l3 hw1 hw2 hQ
      go_wp2_with fail
      try rw [ha']
      obtain ⟨rp, tr, rx, tx, gw⟩ := HQ.out
      refine Calls.mono (follow_num bx _ dd (by omega) (Nat.mod_lt _ (by decide)) H2.out _ (HT.out.grown gw) rx tx) ?_
      rintro e w3 ⟨rfl, g3, r3, t3⟩
      rw [H1.out] at r3
      have HQ2 := Hid.of (show QX w bx v (i + 1) w3 from ⟨g3.range rp (by omega), g3.there tr (by omega), r3, t3, GB.own gw (by omega) g3⟩)
      clear HQ rp tr rx tx gw g3 r3 t3 H1 H2 c1 ha'
      dsimp only
      go_wp2
      go_roundw
      case rel => exact ⟨i + 1, by go_num, by omega, HQ2.out⟩
      case measure => simp [intOf]; omega
    · have hi64 : i = 64 := by omega
      subst hi64
      have e1 : (v / M * 16 ^ 64 + v % M / 16 ^ (64 - 64)) % L = v % L := by
        rw [Nat.sub_self, Nat.pow_zero, Nat.div_one, show (16 : Nat) ^ 64 = M from by decide, Nat.mul_comm, Nat.div_add_mod]
      obtain ⟨rp, tr, rx, tx, gw⟩ := hQ
      rw [e1] at rx
      have H := Hid.of (And.intro rx (And.intro tr gw))
      clear rp tr rx tx gw e1 hi hlt HT
      go_wp2_with (with_reducible show wpList _ _ _ ({ dst := _, op := Op.load 62 _, type := _, pos := _, after := _, guard := _ } :: _) _ _; refine Shut.out ?_)
      show wpList _ _ _ _ _ _
      refine wpList_loadN rfl _ rfl (bx) rfl (v % L) (H.out.1) ?_
      simp only [Act.put, List.setIfInBounds_toArray, List.set_cons_zero, List.set_cons_succ]
      refine wpList_storeN rfl _ _ rfl (w.heap.size + 1) (v % L) rfl rfl (H.out.2.1) ?_
      simp only [Act.put]
      apply wpList_nil
      repeat go_step
      refine bodyPost_ret (v := wv 4 (v % L)) (resultN Tryd.results40 _ _ (w.heap.size + 1) _ ?hp (World.rangeAt_setCells_same _ _ _ _ (by rw [wl_length]; exact H.out.2.1))) ?hd ?_
      case hp => rfl
      case hd => rfl
      exact ⟨rfl, grown_setCells (by omega) _ _ (H.out.2.2)⟩
end Go.Proofs.YteijccjdejjbjaaDoor
