import Derived.Test.YteijccjdejjbjaaDoorLi
namespace Go.Proofs.YteijccjdejjbjaaDoor
open Go.RowKit Go.Shelf ScalarNum

set_option maxRecDepth 100000 in
set_option maxHeartbeats 1000000 in
theorem refReduce_num (x : Nat) (hx : x < M * M) (w : World) (hO : w.rangeAt 1 0 (yl 32 L)) : Calls Tryd.prog 16 #[yv 64 x] w fun e w' => e = .returned (yv 32 (x % L)) ∧ Grown w w' := by
  obtain ⟨ii, hi1, hi2, hi3, hi4⟩ := hI8
  have h00 := alloc2 w 22 23 (yl 64 x) (yl 32 0).toArray
  rw [show (yl 32 0).toArray.size = 32 from rfl] at h00
  have HO1 := Hid.of hO
  have HXM := Hid.of hx
  clear hO hx
  rw [yv]
  go_enter Tryd.func16, Tryd.ntmps16
  go_wp2
  rw [← yl32_zero]
  generalize ((w.alloc (.cells (yl 64 x).toArray 22)).alloc (.cells (yl 32 0).toArray 23)) = W1 at *
  have H0 := Hid.of h00.1
  have T0 := Hid.of h00.2.2.1
  have G0 := Hid.of h00.2.2.2
  clear h00
  go_loopw [3, 4] (fun v3 v4 wr => ∃ i : Nat, v4 = .int .i64 (i : Int) ∧ i ≤ 64 ∧ wr.ownsRow W1.heap.size 5 1 v3 i (yl i x) ∧ (i = 0 ∨ ∃ g cap, v3 = .slice (some ⟨g, 0, none⟩) i cap) ∧ Grown W1 wr) (fun _ v4 _ => 64 - (intOf v4).toNat)
  case atStart => exact ⟨0, rfl, by decide, World.ownsRow_nil _ _ _ _, .inl rfl, Grown.refl _⟩
  case round =>
    obtain ⟨i, rfl, hi, hown, hsl, hg⟩ := hrel
    by_cases hlt : i < 64
    · have d1 : wr.cell? ⟨w.heap.size, i, none⟩ = some (.int .u8 (dg 256 x i : Nat)) := by
        have := rangeAt_grown H0.out hg i _ (yl_get 64 x i hlt); rwa [Nat.zero_add] at this
      have b1 : (i : Int) < 64 := Int.ofNat_lt.2 hlt
      have HO := Hid.of hown
      have HG := Hid.of hg
      have HY := Hid.of (yl_succ i x)
      clear hown hg hsl
      generalize dg 256 x i = d at *
      go_wp2_with (with_reducible show wpList _ _ _ ({ dst := _, op := Op.call { callee := Callee.builtin Builtin.append, args := _, argTypes := _ }, type := _, pos := _, after := _, guard := _ } :: _) _ _; refine Shut.out ?_)
      show wpList _ _ _ _ _ _
      refine wpList_append_one (W0 := W1) rfl _ _ rfl Tryd.underlying64 hi1 hi2 hi3 hi4 rfl _ i (yl i x) rfl (HO.out.alloc _) ⟨wr.heap.size, 0, none⟩ 1 (.int .u8 (d : Int)) rfl (by simp [Addr.add]) rfl (by omega) (Grown.alloc HG.out _ _) ?_
      intro v' w' ho' hgr hv' hg'
      rw [HY.out] at ho'
      simp only [Act.put, List.setIfInBounds_toArray, List.set_cons_zero, List.set_cons_succ]
      have HO' := Hid.of ho'
      have HG' := Hid.of hg'
      have HV' := Hid.of hv'
      clear ho' hg' hv' hgr HO HG HY d1
      go_wp2
      go_roundw
      case rel => exact ⟨i + 1, by go_num, by omega, HO'.out, .inr HV'.out, HG'.out⟩
      case measure => simp [intOf]; omega
    · have hi32 : i = 64 := by omega
      subst hi32
      obtain ⟨g, cap, rfl⟩ := hsl.resolve_left (by decide)
      have HR := Hid.of (And.intro (owns_range hown) hg)
      clear hown hg hi hlt hsl
      go_wp2_with fail
      refine Calls.mono (rest_num g 64 x cap (by decide) (by rw [show (256 : Nat) ^ 64 = M * M from by decide]; exact HXM.out) _ HR.out.1 (rangeAt_grown HO1.out (grown_trans G0.out HR.out.2))) ?_
      rintro e w9 ⟨rfl, g9⟩
      dsimp only
      have H9 := Hid.of (And.intro (there_grown T0.out (grown_trans HR.out.2 g9)) (grown_trans G0.out (grown_trans HR.out.2 g9)))
      clear HR g9
      go_wp2_with (with_reducible show wpList _ _ _ ({ dst := _, op := Op.store 23 _ _, type := _, pos := _, after := _, guard := _ } :: _) _ _; refine Shut.out ?_)
      show wpList _ _ _ _ _ _
      refine wpList_store32 rfl _ _ rfl (w.heap.size + 1) (x % L) rfl rfl (H9.out.1) ?_
      simp only [Act.put]
      apply wpList_nil
      repeat go_step
      refine bodyPost_ret (v := yv 32 (x % L)) (result32 Tryd.results16 _ _ (w.heap.size + 1) _ ?hp (World.rangeAt_setCells_same _ _ _ _ (by rw [yl_length]; exact H9.out.1))) ?hd ?_
      case hp => rfl
      case hd => rfl
      exact ⟨rfl, grown_setCells (by omega) _ _ (H9.out.2)⟩

theorem info64 : (Tryd.prog.info? 22).map (·.size) = some 64 := by kernel_rfl
theorem dgb_mod (v i : Nat) (h : i < 32) : dg 256 (v % M) i = dg 256 v i := by
  have e : v = v / M * 256 ^ 32 + v % M := by rw [show (256 : Nat) ^ 32 = M from by decide, Nat.mul_comm]; exact (Nat.div_add_mod v M).symm
  conv => rhs; rw [e, dg_low (by decide) _ _ _ _ h]
theorem dgb_div (v i : Nat) : dg 256 (v / M) i = dg 256 v (32 + i) := by
  unfold dg
  rw [show M = 256 ^ 32 from by decide, Nat.div_div_eq_div_mul, ← Nat.pow_add]
theorem byte_low {w : World} {b v : Nat} (h : w.rangeAt b 0 (yl 64 v)) : w.rangeAt b 0 (yl 32 (v % M)) := by
  intro j u hj
  have hj4 : j < 32 := by
    have := (List.getElem?_eq_some_iff.1 hj).1; rwa [yl_length] at this
  rw [yl_get 32 _ j hj4, dgb_mod v j hj4, ← yl_get 64 v j (by omega)] at hj
  exact h j u hj
theorem byte_high {w : World} {b v : Nat} (h : w.rangeAt b 0 (yl 64 v)) : w.rangeAt b 32 (yl 32 (v / M)) := by
  intro j u hj
  have hj4 : j < 32 := by
    have := (List.getElem?_eq_some_iff.1 hj).1; rwa [yl_length] at this
  rw [yl_get 32 _ j hj4, dgb_div v j, ← yl_get 64 v (32 + j) (by omega)] at hj
  have := h (32 + j) u hj
  rwa [Nat.zero_add] at this

section
variable {ops : Array Oper} {Q : Exit → Act → World → Prop} {md : Region.Mode} {S : World → Prop} {fuel : Nat} {listed : Array Bool} {a : Act} {w : World}
theorem take32o (i : Nat) (n b o : Nat) {oi : Oper} (hi : ops.toList[i]? = some oi) (hs : Region.noSelect ops = true) (hf : Region.free md ops listed i = true) (hr : (Region.ready md ops listed).contains i = true)
    (hQ : ∀ c a w, Q (.panic c) (a.put oi.dst (yv 32 n)) w → Q (.panic c) a w) (hw : Region.wanted oi (yielded ops a.tmps) = true) {x : Operand} (ho : oi.op = .load 23 x)
    (hx : a.eval x = .pointer (some ⟨b, o, none⟩)) (hS : ∀ w, S w → w.rangeAt b o (yl 32 n)) (hSw : S w)
    (h : wpAnyH Tryd.prog md ops Q S fuel (listed.setIfInBounds i true) (a.put oi.dst (yv 32 n)) w) : wpAnyH Tryd.prog md ops Q S (fuel + 1) listed a w :=
  wpAnyH_take (i := i) (oi := oi) (v := yv 32 n) (by rw [← Array.getElem?_toList]; exact hi) hs hf hr hQ
    (yieldsIf_load_mid hw 23 x ho b o hx (yl 32 n) _ hS Tryd.underlying23 rfl (by rw [yl_length]; exact info32)) hSw h
end

set_option maxRecDepth 100000 in
set_option maxHeartbeats 1000000 in
theorem Reduce_num (v : Nat) (hv : v < M * M) (w : World) (hT : Tab w) : Calls Tryd.prog 15 #[yv 64 v] w fun e w' => e = .returned (yv 32 (sred v)) ∧ Grown w w' := by
  have h0 := alloc2 w 22 23 (yl 64 v) (yl 32 0).toArray
  rw [show (yl 32 0).toArray.size = 32 from rfl] at h0
  have hlM : v % M < M := Nat.mod_lt _ (by decide)
  have hhM : v / M < M := Nat.div_lt_of_lt_mul hv
  have HT := Hid.of hT
  clear hT
  rw [yv]
  go_enter Tryd.func15, Tryd.ntmps15
  go_wp2
  rw [← yl32_zero]
  generalize ((w.alloc (.cells (yl 64 v).toArray 22)).alloc (.cells (yl 32 0).toArray 23)) = W0 at *
  refine wp_region_noPanic ?_
  refine wp_region_held_drew (S := fun w' => w'.rangeAt w.heap.size 0 (yl 64 v) ∧ w'.there (w.heap.size + 1) 0 32 ∧ Grown w w') (by kernel_rfl) ⟨h0.1, h0.2.2.1, h0.2.2.2⟩ (fun hH => ?_)
  clear h0
  refine takeV 0 (.slice (some ⟨w.heap.size, 0, none⟩) 32 64) rfl (by kernel_rfl) (by kernel_rfl) (by kernel_rfl) (fun _ _ _ h => h) (by rfl) (fun _ _ => by kernel_rfl) hH ?_
  simp only [Act.put, List.setIfInBounds_toArray, List.set_cons_zero, List.set_cons_succ]
  refine takeV 1 (.pointer (some ⟨w.heap.size, 0, none⟩)) rfl (by kernel_rfl) (by kernel_rfl) (by kernel_rfl) (fun _ _ _ h => h) (by rfl) (fun _ _ => by kernel_rfl) hH ?_
  simp only [Act.put, List.setIfInBounds_toArray, List.set_cons_zero, List.set_cons_succ]
  refine take32o 2 (v % M) w.heap.size 0 rfl (by kernel_rfl) (by kernel_rfl) (by kernel_rfl) (fun _ _ _ h => h) (by rfl) rfl rfl (fun _ h => byte_low h.1) hH ?_
  simp only [Act.put, List.setIfInBounds_toArray, List.set_cons_zero, List.set_cons_succ]
  refine takeV 4 (.slice (some ⟨w.heap.size, 32, none⟩) 32 32) rfl (by kernel_rfl) (by kernel_rfl) (by kernel_rfl) (fun _ _ _ h => h) (by rfl) (fun _ _ => by kernel_rfl) hH ?_
  simp only [Act.put, List.setIfInBounds_toArray, List.set_cons_zero, List.set_cons_succ]
  refine takeV 5 (.pointer (some ⟨w.heap.size, 32, none⟩)) rfl (by kernel_rfl) (by kernel_rfl) (by kernel_rfl) (fun _ _ _ h => h) (by rfl) (fun _ _ => by kernel_rfl) hH ?_
  simp only [Act.put, List.setIfInBounds_toArray, List.set_cons_zero, List.set_cons_succ]
  refine take32o 6 (v / M) w.heap.size 32 rfl (by kernel_rfl) (by kernel_rfl) (by kernel_rfl) (fun _ _ _ h => h) (by rfl) rfl rfl (fun _ h => byte_high h.1) hH ?_
  simp only [Act.put, List.setIfInBounds_toArray, List.set_cons_zero, List.set_cons_succ]
  refine step1 3 (by kernel_rfl) rfl (fun K hK => ?_)
  go_simp
  refine Calls.mono (load_num (v % M) hlM _) ?_
  rintro e w1 ⟨rfl, hg1⟩
  dsimp only
  refine hK.out _ _ (keep2 hH hg1) (fun hH => ?_)
  clear hK K
  refine step1 7 (by kernel_rfl) rfl (fun K hK => ?_)
  go_simp
  refine Calls.mono (load_num (v / M) hhM _) ?_
  rintro e w2 ⟨rfl, hg2⟩
  dsimp only
  refine hK.out _ _ (keep2 hH hg2) (fun hH => ?_)
  clear hK K
  refine takeV 8 (wv 8 v) rfl (by kernel_rfl) (by kernel_rfl) (by kernel_rfl) (fun _ _ _ h => h) (by rfl) (fun _ _ => build_prod rfl rfl rfl) hH ?_
  simp only [Act.put, List.setIfInBounds_toArray, List.set_cons_zero, List.set_cons_succ]
  refine step1 9 (by kernel_rfl) rfl (fun K hK => ?_)
  go_simp
  refine Calls.mono (prod_num v hv _ (HT.out.grown hH.2.2)) ?_
  rintro e w3 ⟨rfl, hg3⟩
  dsimp only
  refine hK.out _ _ (keep2 hH hg3) (fun hH => ?_)
  clear hK K
  refine step1 10 (by kernel_rfl) rfl (fun K hK => ?_)
  go_simp
  refine Calls.mono (bytes_num _ (modL_ltM _) _) ?_
  rintro e w4 ⟨rfl, hg4⟩
  dsimp only
  refine hK.out _ _ (keep2 hH hg4) (fun hH => ?_)
  clear hK K
  obtain ⟨hr1, hth, hgw⟩ := hH
  rw [show v % L = sred v from rfl]
  refine step1 11 (by kernel_rfl) rfl (fun K hK => ?_)
  refine store32 (sred v) (w.heap.size + 1) rfl (by rfl) rfl rfl hth ?_
  simp only [Act.put]
  refine hK.out _ _ ⟨World.rangeAt_setCells_apart hr1 _ _ _ (by left; omega), World.there_setCells hth _ _ _, grown_setCells (by omega) _ _ hgw⟩ (fun _ => ?_)
  clear hK K
  refine wpAnyH_done (by kernel_rfl) ?_ _
  refine NoPanic.normal ?_
  repeat go_step
  refine bodyPost_ret (v := yv 32 (sred v)) (result32 Tryd.results15 _ _ (w.heap.size + 1) _ ?hp (World.rangeAt_setCells_same _ _ _ _ (by rw [yl_length]; exact hth))) ?hd ?_
  case hp => rfl
  case hd => rfl
  exact ⟨rfl, grown_setCells (by omega) _ _ hgw⟩
end Go.Proofs.YteijccjdejjbjaaDoor
