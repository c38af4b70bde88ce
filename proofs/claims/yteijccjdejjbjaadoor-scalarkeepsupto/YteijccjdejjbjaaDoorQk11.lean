import Derived.Test.YteijccjdejjbjaaDoorQk10
import Derived.Laws.AppendOwn
import Derived.Laws.OwnMore
namespace Go.Proofs.YteijccjdejjbjaaDoor
open Go.RowKit Go.Shelf ScalarNum

theorem value_eq (f : Nat → I8) (len : Nat) : sadd (dsum (pp f 1) len % L) (sneg (dsum (pp f (-1)) len % L)) = vf (down len f len) := by
  have h := vf_sum f len
  rw [hs_parts] at h
  generalize dsum (pp f 1) len = A at *
  generalize dsum (pp f (-1)) len = B at *
  have hL : 0 < L := by decide
  have hA : (A : Int) = (L : Int) * ((A / L : Nat) : Int) + ((A % L : Nat) : Int) := by rw [← Int.natCast_mul, ← Int.natCast_add, Nat.div_add_mod]
  have hB : (B : Int) = (L : Int) * ((B / L : Nat) : Int) + ((B % L : Nat) : Int) := by rw [← Int.natCast_mul, ← Int.natCast_add, Nat.div_add_mod]
  have hle : B % L ≤ L := Nat.le_of_lt (Nat.mod_lt _ hL)
  have hs : sadd (A % L) (sneg (B % L)) = (A % L + (L - B % L)) % L := by unfold sadd sneg; rw [Nat.mod_mod, Nat.add_mod, Nat.mod_mod, Nat.mod_mod, Nat.add_mod (A % L) (L - B % L), Nat.mod_mod]
  have e : ((sadd (A % L) (sneg (B % L)) : Nat) : Int) = ((A : Int) - (B : Int)) % (L : Int) := by
    have key : (A : Int) - (B : Int) = ((A % L + (L - B % L) : Nat) : Int) + (L : Int) * (((A / L : Nat) : Int) - ((B / L : Nat) : Int) - 1) := by
      rw [hA, hB, Int.mul_sub, Int.mul_sub, Int.mul_one, Int.natCast_add, Int.ofNat_sub hle]
      generalize (L : Int) * ((A / L : Nat) : Int) = x1
      generalize (L : Int) * ((B / L : Nat) : Int) = x2
      generalize ((A % L : Nat) : Int) = x3
      generalize ((B % L : Nat) : Int) = x4
      generalize (L : Int) = x5
      omega
    rw [hs, key, Int.add_mul_emod_self_left, Int.natCast_emod]
  exact Int.ofNat.inj (e.trans h.symm)
theorem resRefValue : Tryd.f24.results = #[.cell 2 23, .tmp 3] := by kernel_rfl

set_option maxRecDepth 100000 in
set_option maxHeartbeats 600000 in
theorem refValue_num (a : Option Addr) (len cap : Nat) (f : Nat → I8) (hlen : len ≤ 300) (w : World) (hO : w.rangeAt 1 0 (yl 32 L))
    (hH : ∀ sg : Int, (sg = 1 ∨ sg = -1) → ∀ w', Grown w w' → Calls Tryd.prog 47 #[.slice a len cap, .int .i64 sg] w' fun e w'' => (∃ v, e = .returned v ∧ SL 40 (dsum (pp f sg) len) v w'') ∧ Grown w' w'') :
    Calls Tryd.prog 24 #[.slice a len cap] w fun e w' => e = .returned (.tuple #[yv 32 (vf (down len f len)), .int .i64 0]) ∧ Grown w w' := by
  have h0 := alloc2 w 23 23 (yl 32 0) (yl 32 0).toArray
  rw [show (yl 32 0).toArray.size = 32 from rfl] at h0
  have b1 : ¬ (300 : Int) < (len : Int) := by omega
  have HH := Hid.of (And.intro hH hO)
  have HB := Hid.of (show ∀ sg : Int, (sg = 1 ∨ sg = -1) → dsum (pp f sg) len < 256 ^ 40 from fun sg h => dsum_256 (pp_le h) hlen)
  clear hH hO
  go_enter Tryd.func24, Tryd.ntmps24
  go_wp2_with fail
  rw [← yl32_zero]
  generalize ((w.alloc (.cells (yl 32 0).toArray 23)).alloc (.cells (yl 32 0).toArray 23)) = W0 at *
  have H0 := Hid.of (And.intro h0.2.1 h0.2.2.2)
  clear h0
  refine Calls.mono (HH.out.1 (1) (.inl rfl) _ H0.out.2) ?_
  rintro e w1 ⟨⟨v1, rfl, g1, c1, rfl, hr1⟩, k1⟩
  dsimp only
  have HK1 := Hid.of (And.intro hr1 k1)
  clear hr1 k1
  go_wp2_with fail
  refine Calls.mono (rest_num g1 40 (dsum (pp f (1)) len) c1 (by decide) (HB.out (1) (.inl rfl)) _ HK1.out.1 (rangeAt_grown HH.out.2 (grown_trans H0.out.2 HK1.out.2))) ?_
  rintro e w2 ⟨rfl, m1⟩
  dsimp only
  have HM1 := Hid.of (grown_trans HK1.out.2 m1)
  clear m1 HK1
  go_wp2_with (with_reducible show wpList _ _ _ ({ dst := _, op := Op.store 23 _ _, type := _, pos := _, after := _, guard := _ } :: _) _ _; refine Shut.out ?_)
  show wpList _ _ _ _ _ _
  refine wpList_store_new (dsum (pp f (1)) len % L) (by simp) rfl rfl rfl rfl (fun w3 hg1 hr1 _ => ?_)
  simp only [Act.put]
  apply wpList_nil
  generalize w2.heap.size = s1 at *
  have H3 := Hid.of (And.intro (there_grown H0.out.1 (grown_trans HM1.out hg1)) (And.intro (grown_trans H0.out.2 (grown_trans HM1.out hg1)) hr1))
  clear H0 HM1 hg1 hr1
  go_wp2_with fail
  refine Calls.mono (HH.out.1 (-1) (.inr rfl) _ H3.out.2.1) ?_
  rintro e w4 ⟨⟨v2, rfl, g2, c2, rfl, hr2⟩, k2⟩
  dsimp only
  have HK2 := Hid.of (And.intro hr2 k2)
  clear hr2 k2
  go_wp2_with fail
  refine Calls.mono (rest_num g2 40 (dsum (pp f (-1)) len) c2 (by decide) (HB.out (-1) (.inr rfl)) _ HK2.out.1 (rangeAt_grown HH.out.2 (grown_trans H3.out.2.1 HK2.out.2))) ?_
  rintro e w5 ⟨rfl, m2⟩
  dsimp only
  have HM2 := Hid.of (grown_trans HK2.out.2 m2)
  clear m2 HK2
  go_wp2_with (with_reducible show wpList _ _ _ ({ dst := _, op := Op.store 23 _ _, type := _, pos := _, after := _, guard := _ } :: _) _ _; refine Shut.out ?_)
  show wpList _ _ _ _ _ _
  refine wpList_store_new (dsum (pp f (-1)) len % L) (by simp) rfl rfl rfl rfl (fun w6 hg2 hr2 _ => ?_)
  simp only [Act.put]
  apply wpList_nil
  generalize w5.heap.size = s2 at *
  have H6 := Hid.of (And.intro (there_grown H3.out.1 (grown_trans HM2.out hg2)) (And.intro (grown_trans H3.out.2.1 (grown_trans HM2.out hg2)) (And.intro (rangeAt_grown H3.out.2.2 (grown_trans HM2.out hg2)) hr2)))
  clear H3 HM2 hg2 hr2
  go_wp2_with (with_reducible show wpList _ _ _ ({ dst := _, op := Op.load 23 _, type := _, pos := _, after := _, guard := _ } :: _) _ _; refine Shut.out ?_)
  show wpList _ _ _ _ _ _
  refine wpList_load32 rfl _ rfl s2 rfl (dsum (pp f (-1)) len % L) H6.out.2.2.2 ?_
  simp only [Act.put, List.setIfInBounds_toArray, List.set_cons_zero, List.set_cons_succ]
  go_wp2_with fail
  refine Calls.mono (refNeg_num _ (modL_ltM _) _ (rangeAt_grown HH.out.2 H6.out.2.1)) ?_
  rintro e w7 ⟨rfl, k7⟩
  dsimp only
  have HK7 := Hid.of k7
  clear k7
  go_wp2_with (with_reducible show wpList _ _ _ ({ dst := _, op := Op.store 23 _ _, type := _, pos := _, after := _, guard := _ } :: _) _ _; refine Shut.out ?_)
  show wpList _ _ _ _ _ _
  refine wpList_store_new (sneg (dsum (pp f (-1)) len % L)) (by simp) rfl rfl rfl rfl (fun w8 hg8 hr8 _ => ?_)
  simp only [Act.put]
  apply wpList_nil
  generalize w7.heap.size = s3 at *
  have H8 := Hid.of (And.intro (there_grown H6.out.1 (grown_trans HK7.out hg8)) (And.intro (grown_trans H6.out.2.1 (grown_trans HK7.out hg8)) (And.intro (rangeAt_grown H6.out.2.2.1 (grown_trans HK7.out hg8)) hr8)))
  clear H6 HK7 hg8 hr8
  go_wp2_with (with_reducible show wpList _ _ _ ({ dst := _, op := Op.load 23 _, type := _, pos := _, after := _, guard := _ } :: _) _ _; refine Shut.out ?_)
  show wpList _ _ _ _ _ _
  refine wpList_load32 rfl _ rfl s1 rfl (dsum (pp f 1) len % L) H8.out.2.2.1 ?_
  simp only [Act.put, List.setIfInBounds_toArray, List.set_cons_zero, List.set_cons_succ]
  refine wpList_load32 rfl _ rfl s3 rfl (sneg (dsum (pp f (-1)) len % L)) H8.out.2.2.2 ?_
  simp only [Act.put, List.setIfInBounds_toArray, List.set_cons_zero, List.set_cons_succ]
  go_wp2_with fail
  refine Calls.mono (refAdd_num _ _ (modL_ltM _) (sneg_lt _) _ (rangeAt_grown HH.out.2 H8.out.2.1)) ?_
  rintro e w9 ⟨rfl, k9⟩
  dsimp only
  rw [value_eq]
  obtain ⟨v, hvE⟩ : ∃ v, vf (down len f len) = v := ⟨_, rfl⟩
  rw [hvE]
  have HV := Hid.of hvE
  have HK9 := Hid.of k9
  clear k9 hvE
  go_wp2_with (with_reducible show wpList _ _ _ ({ dst := _, op := Op.store 23 _ _, type := _, pos := _, after := _, guard := _ } :: _) _ _; refine Shut.out ?_)
  show wpList _ _ _ _ _ _
  refine wpList_store_new v (by simp) rfl rfl rfl rfl (fun w10 hg10 hr10 _ => ?_)
  simp only [Act.put]
  apply wpList_nil
  generalize w9.heap.size = s4 at *
  have H10 := Hid.of (And.intro (there_grown H8.out.1 (grown_trans HK9.out hg10)) (And.intro (grown_trans H8.out.2.1 (grown_trans HK9.out hg10)) hr10))
  clear H8 HK9 hg10 hr10
  go_wp2_with (with_reducible show wpList _ _ _ ({ dst := _, op := Op.load 23 _, type := _, pos := _, after := _, guard := _ } :: _) _ _; refine Shut.out ?_)
  show wpList _ _ _ _ _ _
  refine wpList_load32 rfl _ rfl s4 rfl v H10.out.2.2 ?_
  simp only [Act.put, List.setIfInBounds_toArray, List.set_cons_zero, List.set_cons_succ]
  refine wpList_store32 rfl _ _ rfl (w.heap.size) v rfl rfl H10.out.1 ?_
  simp only [Act.put]
  refine wpList_val (.int .i64 0) rfl (by kernel_rfl) ?_
  simp only [Act.put, List.setIfInBounds_toArray, List.set_cons_zero, List.set_cons_succ]
  apply wpList_nil
  repeat go_step
  refine bodyPost_ret (v := .tuple #[yv 32 v, .int .i64 0]) (result32t resRefValue _ _ (w.heap.size) _ _ ?hp ?hv (World.rangeAt_setCells_same _ _ _ _ (by rw [yl_length]; exact H10.out.1))) ?hd ?_
  case hp => rfl
  case hv => rfl
  case hd => rfl
  exact ⟨by rw [HV.out], grown_setCells (Nat.le_refl _) _ _ H10.out.2.1⟩
end Go.Proofs.YteijccjdejjbjaaDoor
namespace Go.Proofs.YteijccjdejjbjaaDoor
open Go.RowKit Go.Shelf ScalarNum

set_option maxRecDepth 100000 in
set_option maxHeartbeats 600000 in
theorem heap_nil (a : Option Addr) (cap : Nat) (f : Nat → I8) (sg : Int) (hsg : sg = 1 ∨ sg = -1) (w : World) :
    Calls Tryd.prog 47 #[.slice a 0 cap, .int .i64 sg] w fun e w' => (∃ v, e = .returned v ∧ SL 40 (dsum (pp f sg) 0) v w') ∧ Grown w w' := by
  have hp : ∀ i, pp f sg i ≤ 128 := pp_le hsg
  have h0 : (w.alloc (.cells (sl (SS (pp f sg) 0)).toArray 91)).rangeAt w.heap.size 0 (sl (SS (pp f sg) 0)) ∧ (w.alloc (.cells (sl (SS (pp f sg) 0)).toArray 91)).there w.heap.size 0 40 ∧ Grown w (w.alloc (.cells (sl (SS (pp f sg) 0)).toArray 91)) :=
    ⟨rangeAt_alloc_new w 91 _, there_alloc_new w 91 _ 40 (by rw [List.size_toArray, sl_length]; exact Nat.le_refl _), Grown.alloc (Grown.refl _) _ _⟩
  have HP := Hid.of (And.intro hp hsg)
  clear hp hsg
  go_enter Tryd.func47, Tryd.ntmps47
  go_wp2
  go_loopw [6] (fun v6 wr => ∃ i : Nat, v6 = .int .i64 (i : Int) ∧ i ≤ 0 ∧ HX (w.alloc (.cells (sl (SS (pp f sg) 0)).toArray 91)) w.heap.size (pp f sg) i wr) (fun _ _ => 0)
  case atStart =>
    refine ⟨0, rfl, Nat.zero_le _, ?_⟩
    have e : ∀ W, W = (w.alloc (.cells (sl (SS (pp f sg) 0)).toArray 91)) → HX (w.alloc (.cells (sl (SS (pp f sg) 0)).toArray 91)) w.heap.size (pp f sg) 0 W := fun W e => by rw [e]; exact ⟨h0.1, h0.2.1, GB.refl _ _⟩
    exact e _ rfl
  case round =>
    obtain ⟨i, rfl, hi, hX⟩ := hrel
    generalize (w.alloc (.cells (sl (SS (pp f sg) 0)).toArray 91)) = W0 at *
    have HXX := Hid.of (And.intro hX h0)
    clear hX h0
    · obtain rfl : i = 0 := by omega
      have gwr : Grown w wr := GB.own HXX.out.2.2.2 (Nat.le_refl _) HXX.out.1.gb
      have HR := Hid.of (And.intro HXX.out.1.rg gwr)
      have HS := Hid.of (show ∀ k, SS (pp f sg) 0 k ≤ 4915200 from fun k => Nat.le_trans (SS_le HP.out.1 0 k) (by omega))
      have HTt := Hid.of (And.intro (tot_SS (pp f sg) 0 (by omega)) (dsum_256 (i := 0) HP.out.1 (by decide)))
      generalize SS (pp f sg) 0 = S at *
      obtain ⟨ii, hi1, hi2, hi3, hi4⟩ := hI8
      clear HXX gwr hi HP
      obtain ⟨wr2, eW⟩ : ∃ W1, W1 = wr := ⟨_, rfl⟩
      subst eW
      go_wp2
      go_loopw [10, 11, 12] (fun v10 v11 v12 wr' => ∃ k D c : Nat, v12 = .int .i64 (k : Int) ∧ v11 = .int .i64 (c : Int) ∧ k ≤ 40 ∧ c ≤ 4915200 ∧ D + c * 256 ^ k = tot S k ∧ OX wr2 v10 k D wr') (fun _ _ v12 _ => 40 - (intOf v12).toNat)
      case atStart => exact ⟨0, 0, 0, rfl, rfl, by decide, by decide, by simp [tot], World.ownsRow_nil _ _ _ _, .inl rfl, by decide, Grown.refl _⟩
      case round =>
        obtain ⟨k, D, c, rfl, rfl, hk, hc, he, hO⟩ := hrel
        have HO := Hid.of hO
        clear hO
        by_cases hlt : k < 40
        · have b1 : (k : Int) < 40 := Int.ofNat_lt.2 hlt
          have d1 : wr.cell? ⟨w.heap.size, k, none⟩ = some (.int .i64 (S k : Nat)) := by
            have := rangeAt_grown HR.out.1 HO.out.gw k _ (sl_get S k hlt); rwa [Nat.zero_add] at this
          have hSk := HS.out k
          have hst := Hid.of (carry_lay HO.out.lt he)
          generalize S k = x at *
          have es : (x : Int) + (c : Int) = ((x + c : Nat) : Int) := by omega
          have hs2 : x + c < 10000000 := by omega
          have hs3 : (x + c) / 256 ≤ 4915200 := by omega
          generalize x + c = s at *
          have q1 := tmods s
          have q2 := tdivs s
          have q3 := u8_of s
          have HL := Hid.of hs3
          clear he hs3 hSk
          go_wp2_with (with_reducible show wpList _ _ _ ({ dst := _, op := Op.call { callee := Callee.builtin Builtin.append, args := _, argTypes := _ }, type := _, pos := _, after := _, guard := _ } :: _) _ _; refine Shut.out ?_)
          show wpList _ _ _ _ _ _
          rw [show ((s : Int) % 256) = ((s % 256 : Nat) : Int) from by simp]
          refine wpList_append_one (W0 := wr2) rfl _ _ rfl Tryd.underlying64 hi1 hi2 hi3 hi4 rfl _ k (yl k D) rfl (HO.out.own.alloc _) ⟨wr.heap.size, 0, none⟩ 1 (.int .u8 ((s % 256 : Nat) : Int)) rfl (by simp [Addr.add]) rfl (Nat.lt_trans hlt (by decide)) (Grown.alloc HO.out.gw _ _) ?_
          intro v' w' ho' hgr hv' hg'
          rw [yl_lay HO.out.lt (Nat.mod_lt _ (by decide))] at ho'
          have HO' := Hid.of (show OX wr2 v' (k + 1) (D + s % 256 * 256 ^ k) w' from ⟨ho', .inr hv', hst.out.1, hg'⟩)
          clear ho' hgr hv' hg' HO d1
          simp only [Act.put, List.setIfInBounds_toArray, List.set_cons_zero, List.set_cons_succ]
          go_wp2
          go_roundw
          case rel => exact ⟨k + 1, D + s % 256 * 256 ^ k, s / 256, by go_num, by simp, hlt, HL.out, hst.out.2, HO'.out⟩
          case measure => simp [intOf]; omega
        · obtain rfl : k = 40 := by omega
          have hc0 : c = 0 := by
            have h1 := HTt.out.2
            rw [← HTt.out.1, ← he] at h1
            exact carry_none h1
          subst hc0
          rw [Nat.zero_mul, Nat.add_zero, HTt.out.1] at he
          subst he
          obtain ⟨g, cp, rfl⟩ := HO.out.sl.resolve_left (by decide)
          have HF := Hid.of (And.intro (owns_range HO.out.own) (grown_trans HR.out.2 HO.out.gw))
          clear HO HR HTt HS
          go_wp2
          go_loopw [10, 11] (fun v10 v11 wr' => v10 = .slice (some ⟨g, 0, none⟩) 40 cp ∧ v11 = .int .i64 0 ∧ wr' = wr) (fun _ _ _ => 0)
          case atStart => exact ⟨rfl, rfl, rfl⟩
          case round =>
            obtain ⟨rfl, rfl, rfl⟩ := hrel
            go_wp2
            go_ret
            exact ⟨⟨_, rfl, g, cp, rfl, HF.out.1⟩, HF.out.2⟩
end Go.Proofs.YteijccjdejjbjaaDoor
namespace Go.Proofs.YteijccjdejjbjaaDoor
open Go.RowKit Go.Shelf ScalarNum

set_option maxRecDepth 100000 in
set_option maxHeartbeats 400000 in
theorem refValue_long (a : Option Addr) (len cap : Nat) (hlen : 300 < len) (w : World) :
    Calls Tryd.prog 24 #[.slice a len cap] w fun e w' => e = .returned (.tuple #[yv 32 0, .int .i64 2]) ∧ Grown w w' := by
  have h0 := alloc2 w 23 23 (yl 32 0) (yl 32 0).toArray
  have hr1 : ((w.alloc (.cells (yl 32 0).toArray 23)).alloc (.cells (yl 32 0).toArray 23)).rangeAt (w.heap.size + 1) 0 (yl 32 0) := by
    have := rangeAt_alloc_new (w.alloc (.cells (yl 32 0).toArray 23)) 23 (yl 32 0)
    rwa [World.size_alloc] at this
  have b1 : (300 : Int) < (len : Int) := by omega
  go_enter Tryd.func24, Tryd.ntmps24
  go_wp2_with (with_reducible show wpList _ _ _ ({ dst := _, op := Op.load 23 _, type := _, pos := _, after := _, guard := _ } :: _) _ _; refine Shut.out ?_)
  show wpList _ _ _ _ _ _
  rw [← yl32_zero]
  generalize ((w.alloc (.cells (yl 32 0).toArray 23)).alloc (.cells (yl 32 0).toArray 23)) = W0 at *
  rw [yl_length] at h0
  have H0 := Hid.of (And.intro h0.2.1 (And.intro h0.2.2.2 hr1))
  clear h0 hr1 b1
  refine wpList_load32 rfl _ rfl (w.heap.size + 1) rfl 0 H0.out.2.2 ?_
  simp only [Act.put, List.setIfInBounds_toArray, List.set_cons_zero, List.set_cons_succ]
  refine wpList_store32 rfl _ _ rfl (w.heap.size) 0 rfl rfl H0.out.1 ?_
  simp only [Act.put]
  refine wpList_val (.int .i64 2) rfl (by kernel_rfl) ?_
  simp only [Act.put, List.setIfInBounds_toArray, List.set_cons_zero, List.set_cons_succ]
  apply wpList_nil
  repeat go_step
  refine bodyPost_ret (v := .tuple #[yv 32 0, .int .i64 2]) (result32t resRefValue _ _ (w.heap.size) _ _ ?hp ?hv (World.rangeAt_setCells_same _ _ _ _ (by rw [yl_length]; exact H0.out.1))) ?hd ?_
  case hp => rfl
  case hv => rfl
  case hd => rfl
  exact ⟨rfl, grown_setCells (Nat.le_refl _) _ _ H0.out.2.1⟩
end Go.Proofs.YteijccjdejjbjaaDoor
namespace Go.Proofs.YteijccjdejjbjaaDoor
open Go.RowKit Go.Shelf ScalarNum

set_option maxRecDepth 100000 in
set_option maxHeartbeats 400000 in
theorem Value_long (a : Option Addr) (len cap : Nat) (hlen : 300 < len) (w : World) :
    Calls Tryd.prog 21 #[.slice a len cap] w fun e w' => e = .returned (.tuple #[yv 32 0, .int .i64 2]) ∧ Lain w w' := by
  have h0 := alloc1 w 23 (yl 32 0).toArray
  rw [show (yl 32 0).toArray.size = 32 from rfl] at h0
  have b1 : (300 : Int) < (len : Int) := by omega
  go_enter Tryd.func21, Tryd.ntmps21
  go_wp2_with (with_reducible show wpList _ _ _ ({ dst := _, op := Op.build 23 _, type := _, pos := _, after := _, guard := _ } :: _) _ _; refine Shut.out ?_)
  show wpList _ _ _ _ _ _
  rw [← yl32_zero]
  generalize (w.alloc (.cells (yl 32 0).toArray 23)) = W0 at *
  have H0 := Hid.of (And.intro h0 (Lain.of h0.2))
  clear h0 b1
  refine wpList_val (yv 32 0) rfl (by kernel_rfl) ?_
  simp only [Act.put, List.setIfInBounds_toArray, List.set_cons_zero, List.set_cons_succ]
  refine wpList_store32 rfl _ _ rfl (w.heap.size) 0 rfl rfl H0.out.1.1 ?_
  simp only [Act.put]
  refine wpList_val (.int .i64 2) rfl (by kernel_rfl) ?_
  simp only [Act.put, List.setIfInBounds_toArray, List.set_cons_zero, List.set_cons_succ]
  apply wpList_nil
  repeat go_step
  refine bodyPost_ret (v := .tuple #[yv 32 0, .int .i64 2]) (result32t resValue _ _ (w.heap.size) _ _ ?hp ?hv (World.rangeAt_setCells_same _ _ _ _ (by rw [yl_length]; exact H0.out.1.1))) ?hd ?_
  case hp => rfl
  case hv => rfl
  case hd => rfl
  exact ⟨rfl, H0.out.2.set (Nat.le_refl _) _⟩
end Go.Proofs.YteijccjdejjbjaaDoor
namespace Go.Proofs.YteijccjdejjbjaaDoor
open Go.RowKit Go.Shelf ScalarNum

/-- Value's answer -/
def valN (l : List I8) : Nat := if l.length ≤ 300 then vf (down l.length (at8 l) l.length) else 0
def valE (l : List I8) : Int := if l.length ≤ 300 then 0 else 2
theorem valN_lt (l : List I8) : valN l < M := by
  unfold valN
  split
  · exact Nat.lt_trans (vf_lt _) L_lt_M
  · decide
theorem Value8 (v : Value) (l : List I8) (w : World) (hS : Sl8 w v l) (hT : Tab w) : Calls Tryd.prog 21 #[v] w fun e w' => e = .returned (.tuple #[yv 32 (valN l), .int .i64 (valE l)]) ∧ Lain w w' := by
  have hd := hS.dig
  obtain ⟨a, c, rfl, _⟩ := hS
  unfold valN valE
  by_cases h : l.length ≤ 300
  · rw [if_pos h, if_pos h]; exact Value_num a l.length c (at8 l) h w hT hd
  · rw [if_neg h, if_neg h]; exact Value_long a l.length c (by omega) w
theorem refValue8 (v : Value) (l : List I8) (w : World) (hS : Sl8 w v l) (hO : w.rangeAt 1 0 (yl 32 L)) : Calls Tryd.prog 24 #[v] w fun e w' => e = .returned (.tuple #[yv 32 (valN l), .int .i64 (valE l)]) ∧ Grown w w' := by
  obtain ⟨a, c, rfl, _, hh⟩ := hS
  unfold valN valE
  by_cases h : l.length ≤ 300
  · rw [if_pos h, if_pos h]
    refine refValue_num a l.length c (at8 l) h w hO (fun sg hsg w' hg => ?_)
    rcases hh with e | ⟨b, off, rfl, hb, hc⟩
    · subst e
      exact heap_nil a c (at8 []) sg hsg w'
    · exact heap_num b off l.length c (at8 l) sg hsg h w' (fun j hj => by rw [at8_lt hj]; exact (grown_cell hg _ _ hb).trans (hc j hj)) (Nat.lt_of_lt_of_le hb hg.2.2)
  · rw [if_neg h, if_neg h]; exact refValue_long a l.length c (by omega) w

set_option maxRecDepth 100000 in
set_option maxHeartbeats 1000000 in
theorem digits_nine (a b c u : Nat) (n : Int) (d : Value) (ha : a < M) (w : World) :
    Calls Tryd.prog 58 #[.agg (opc 9 a b c u n d).toArray] w fun e w' => e = .returned (.bool true) ∧ Lain w w' := by
  have h0 := ox_new w 9 a b c u n d 51
  have hk := h0.1.rk
  go_enter Tryd.func58, Tryd.ntmps58
  go_wp2_with (with_reducible show wpList _ _ _ ({ dst := _, op := Op.load 23 _, type := _, pos := _, after := _, guard := _ } :: _) _ _; refine Shut.out ?_)
  show wpList _ _ _ _ _ _
  generalize (w.alloc (.cells (opc 9 a b c u n d).toArray 51)) = W0 at *
  have H0 := Hid.of h0
  clear h0 hk
  refine wpList_load32o rfl _ rfl w.heap.size 1 rfl a H0.out.1.ra ?_
  simp only [Act.put, List.setIfInBounds_toArray, List.set_cons_zero, List.set_cons_succ]
  have hn0 := H0.out.1.rn
  by_cases hz : n < 2 ∨ 8 < n
  · go_wp2_with fail
    refine Calls.mono (Digits_bad a n hz W0) ?_
    rintro e w1 ⟨rfl, g1⟩
    dsimp only
    have H1 := Hid.of (And.intro (H0.out.1.lain (Lain.of g1)) (H0.out.2.trans (Lain.of g1)))
    clear H0 g1 hn0
    go_wp2_with (with_reducible show wpList _ _ _ ({ dst := _, op := Op.load 23 _, type := _, pos := _, after := _, guard := _ } :: _) _ _; refine Shut.out ?_)
    show wpList _ _ _ _ _ _
    refine wpList_load32o rfl _ rfl w.heap.size 1 rfl a H1.out.1.ra ?_
    simp only [Act.put, List.setIfInBounds_toArray, List.set_cons_zero, List.set_cons_succ]
    have hn0 := H1.out.1.rn
    go_wp2_with fail
    refine Calls.mono (refDigits_bad a n hz w1) ?_
    rintro e w2 ⟨rfl, g2⟩
    dsimp only
    have H2 := Hid.of (H1.out.2.trans (Lain.of g2))
    clear H1 g2 hn0
    go_wp2_with fail
    refine Calls.mono (same_nil w2) ?_
    rintro e w3 ⟨rfl, g3⟩
    dsimp only
    have H3 := Hid.of (H2.out.trans (Lain.of g3))
    clear H2 g3
    go_wp2
    go_ret
    exact ⟨rfl, H3.out⟩
  · obtain ⟨k, rfl⟩ : ∃ k : Nat, n = (k : Int) := ⟨n.toNat, by omega⟩
    have hk2 : 2 ≤ k := by omega
    have hk8 : k ≤ 8 := by omega
    clear hz
    go_wp2_with fail
    refine Calls.mono (Digits_num a k ha hk2 hk8 W0) ?_
    rintro e w1 ⟨⟨v1, rfl, g, rfl, hr1⟩, g1⟩
    dsimp only
    have H1 := Hid.of (And.intro (H0.out.1.lain (Lain.of g1)) (And.intro hr1 (H0.out.2.trans (Lain.of g1))))
    clear H0 g1 hn0 hr1
    go_wp2_with (with_reducible show wpList _ _ _ ({ dst := _, op := Op.load 23 _, type := _, pos := _, after := _, guard := _ } :: _) _ _; refine Shut.out ?_)
    show wpList _ _ _ _ _ _
    refine wpList_load32o rfl _ rfl w.heap.size 1 rfl a H1.out.1.ra ?_
    simp only [Act.put, List.setIfInBounds_toArray, List.set_cons_zero, List.set_cons_succ]
    have hn0 := H1.out.1.rn
    go_wp2_with fail
    refine Calls.mono (refDigits_num a k ha hk2 hk8 w1) ?_
    rintro e w2 ⟨⟨g2', cap, rfl, hr2⟩, g2⟩
    dsimp only
    have H2 := Hid.of (And.intro (rangeAt_grown H1.out.2.1 g2) (And.intro hr2 (H1.out.2.2.trans (Lain.of g2))))
    clear H1 g2 hn0 hr2
    go_wp2_with fail
    refine Calls.mono (same_num g g2' cap k a w2 H2.out.1 H2.out.2.1) ?_
    rintro e w3 ⟨rfl, g3⟩
    dsimp only
    have H3 := Hid.of (H2.out.2.2.trans (Lain.of g3))
    clear H2 g3
    go_wp2
    go_ret
    exact ⟨rfl, H3.out⟩

set_option maxRecDepth 100000 in
set_option maxHeartbeats 1000000 in
theorem digits_ten (a b c u : Nat) (n : Int) (d : Value) (l : List I8) (w : World) (hS : Sl8 w d l) (hG : GS w) :
    Calls Tryd.prog 58 #[.agg (opc 10 a b c u n d).toArray] w fun e w' => e = .returned (.bool true) ∧ Lain w w' := by
  have h0 := ox_new w 10 a b c u n d 51
  have HG := Hid.of hG
  have HS := Hid.of hS
  have hk := h0.1.rk
  have hd := h0.1.rd
  have hvM := Hid.of (valN_lt l)
  have H0 := Hid.of h0
  obtain ⟨sa, sc, rfl, _⟩ := hS
  clear h0 hG
  go_enter Tryd.func58, Tryd.ntmps58
  go_wp2_with fail
  generalize (w.alloc (.cells (opc 10 a b c u n (.slice sa l.length sc)).toArray 51)) = W0 at *
  refine Calls.mono (refValue8 _ l W0 (HS.out.lain H0.out.2) (HG.out.lain H0.out.2).od) ?_
  rintro e w1 ⟨rfl, g1⟩
  dsimp only
  have H1 := Hid.of (And.intro (H0.out.1.lain (Lain.of g1)) (H0.out.2.trans (Lain.of g1)))
  clear H0 g1 hd hk
  obtain ⟨E, hE⟩ : ∃ E, valE l = E := ⟨_, rfl⟩
  obtain ⟨V, hV⟩ : ∃ V, valN l = V := ⟨_, rfl⟩
  rw [hV] at hvM
  rw [hE, hV]
  have HE := Hid.of (And.intro hE hV)
  clear hE hV
  go_wp2_with (with_reducible show wpList _ _ _ ({ dst := _, op := Op.store 23 _ _, type := _, pos := _, after := _, guard := _ } :: _) _ _; refine Shut.out ?_)
  show wpList _ _ _ _ _ _
  refine wpList_store_new V (by simp) rfl rfl rfl rfl (fun w2 hg2 hr2 _ => ?_)
  simp only [Act.put]
  have H2 := Hid.of (And.intro (H1.out.1.lain (Lain.of hg2)) (And.intro hr2 (H1.out.2.trans (Lain.of hg2))))
  clear H1 hg2 hr2
  generalize w1.heap.size = b7 at *
  refine wpList_val (.int .i64 E) rfl (by first | rfl | (go_simp; done)) ?_
  simp only [Act.put, List.setIfInBounds_toArray, List.set_cons_zero, List.set_cons_succ]
  apply wpList_nil
  have hd := H2.out.1.rd
  go_wp2_with fail
  refine Calls.mono (Value8 _ l w2 (HS.out.lain H2.out.2.2) (HG.out.lain H2.out.2.2).tb) ?_
  rintro e w3 ⟨rfl, g3⟩
  rw [HE.out.1, HE.out.2]
  dsimp only
  have H3 := Hid.of (And.intro (g3.range H2.out.2.1) (H2.out.2.2.trans g3))
  clear H2 g3 hd
  go_wp2_with (with_reducible show wpList _ _ _ ({ dst := _, op := Op.store 23 _ _, type := _, pos := _, after := _, guard := _ } :: _) _ _; refine Shut.out ?_)
  show wpList _ _ _ _ _ _
  refine wpList_store_new V (by simp) rfl rfl rfl rfl (fun w4 hg4 hr4 _ => ?_)
  simp only [Act.put]
  have H4 := Hid.of (And.intro (rangeAt_grown H3.out.1 hg4) (And.intro hr4 (H3.out.2.trans (Lain.of hg4))))
  clear H3 hg4 hr4
  generalize w3.heap.size = b9 at *
  refine wpList_val (.int .i64 E) rfl (by first | rfl | (go_simp; done)) ?_
  simp only [Act.put, List.setIfInBounds_toArray, List.set_cons_zero, List.set_cons_succ]
  apply wpList_nil
  go_wp2_with (with_reducible show wpList _ _ _ ({ dst := _, op := Op.load 23 _, type := _, pos := _, after := _, guard := _ } :: _) _ _; refine Shut.out ?_)
  show wpList _ _ _ _ _ _
  refine wpList_load32 rfl _ rfl b9 rfl V H4.out.2.1 ?_
  simp only [Act.put, List.setIfInBounds_toArray, List.set_cons_zero, List.set_cons_succ]
  refine wpList_load32 rfl _ rfl b7 rfl V H4.out.1 ?_
  simp only [Act.put, List.setIfInBounds_toArray, List.set_cons_zero, List.set_cons_succ]
  refine wpList_val (.bool true) rfl (exec_eql_same rfl V V rfl rfl hvM.out hvM.out rfl _) ?_
  simp only [Act.put, List.setIfInBounds_toArray, List.set_cons_zero, List.set_cons_succ]
  go_wp2
  go_ret
  exact ⟨rfl, H4.out.2.2⟩

set_option maxRecDepth 100000 in
theorem infoOp : (Tryd.prog.info? 51).map (·.size) = some 163 := by kernel_rfl
theorem wpList_loadOp {ops : Array Oper} {rest : List Oper} {op : Oper} {a : Act} {w : World} {Q : Exit → Act → World → Prop} (hgd : op.guard = none) (x : Operand) (ho : op.op = .load 51 x)
    (p o : Nat) (hx : a.eval x = .pointer (some ⟨p, o, none⟩)) (k : Int) (xa xb xc xu : Nat) (n : Int) (d : Value) (hc : w.rangeAt p o (opc k xa xb xc xu n d))
    (h : wpList Tryd.prog ops Q rest (a.put op.dst (.agg (opc k xa xb xc xu n d).toArray)) w) : wpList Tryd.prog ops Q (op :: rest) a w :=
  wpList_load_mid hgd 51 x ho p o hx (opc k xa xb xc xu n d) _ hc Tryd.underlying51 rfl (by rw [opc_length]; exact infoOp) h
set_option maxRecDepth 100000 in
set_option maxHeartbeats 1000000 in
theorem plays_digits (k : Int) (hk9 : k = 9 ∨ k = 10) (a b c u : Nat) (n : Int) (d : Value) (l : List I8) (ha : a < M) (w : World) (hS : Sl8 w d l) (hG : GS w) :
    Calls Tryd.prog 38 #[.agg (opc k a b c u n d).toArray] w fun e w' => e = .returned (.bool true) ∧ Lain w w' := by
  have hr := rangeAt_alloc_new w 51 (opc k a b c u n d)
  have h0 := ox_new w k a b c u n d 51
  have HG := Hid.of hG
  have HS := Hid.of hS
  have hk := h0.1.rk
  have H0 := Hid.of (And.intro hr h0.2)
  clear h0 hG hr hS
  have key : Hid (∀ W0, Lain w W0 → Calls Tryd.prog 58 #[.agg (opc k a b c u n d).toArray] W0 fun e w' => e = .returned (.bool true) ∧ Lain W0 w') := by
    intro W0 g
    rcases hk9 with rfl | rfl
    · exact digits_nine a b c u n d ha W0
    · exact digits_ten a b c u n d l W0 (HS.out.lain g) (HG.out.lain g)
  rcases hk9 with rfl | rfl
  · go_enter Tryd.func38, Tryd.ntmps38
    go_wp2_with (with_reducible show wpList _ _ _ ({ dst := _, op := Op.load 51 _, type := _, pos := _, after := _, guard := _ } :: _) _ _; refine Shut.out ?_)
    show wpList _ _ _ _ _ _
    generalize (w.alloc (.cells (opc 9 a b c u n d).toArray 51)) = W0 at *
    refine wpList_loadOp rfl _ rfl w.heap.size 0 rfl 9 a b c u n d H0.out.1 ?_
    simp only [Act.put, List.setIfInBounds_toArray, List.set_cons_zero, List.set_cons_succ]
    go_wp2_with fail
    refine Calls.mono (key.out W0 H0.out.2) ?_
    rintro e w1 ⟨rfl, g1⟩
    have H1 := Hid.of (H0.out.2.trans g1)
    clear g1 H0
    dsimp only
    go_wp2
    go_ret
    exact ⟨rfl, H1.out⟩
  · go_enter Tryd.func38, Tryd.ntmps38
    go_wp2_with (with_reducible show wpList _ _ _ ({ dst := _, op := Op.load 51 _, type := _, pos := _, after := _, guard := _ } :: _) _ _; refine Shut.out ?_)
    show wpList _ _ _ _ _ _
    generalize (w.alloc (.cells (opc 10 a b c u n d).toArray 51)) = W0 at *
    refine wpList_loadOp rfl _ rfl w.heap.size 0 rfl 10 a b c u n d H0.out.1 ?_
    simp only [Act.put, List.setIfInBounds_toArray, List.set_cons_zero, List.set_cons_succ]
    go_wp2_with fail
    refine Calls.mono (key.out W0 H0.out.2) ?_
    rintro e w1 ⟨rfl, g1⟩
    have H1 := Hid.of (H0.out.2.trans g1)
    clear g1 H0
    dsimp only
    go_wp2
    go_ret
    exact ⟨rfl, H1.out⟩
theorem plays_any (k : Int) (a b c u : Nat) (n : Int) (d : Value) (l : List I8) (ha : a < M) (hb : b < M) (hc : c < M) (hu : u < M * M) (w : World) (hS : Sl8 w d l) (hG : GS w) :
    Calls Tryd.prog 38 #[.agg (opc k a b c u n d).toArray] w fun e w' => e = .returned (.bool true) ∧ Lain w w' := by
  by_cases h : k < 1 ∨ 10 < k
  · exact plays_none k a b c u n d h w
  · obtain rfl | rfl | rfl | rfl | rfl | rfl | rfl | rfl | h9 : k = 1 ∨ k = 2 ∨ k = 3 ∨ k = 4 ∨ k = 5 ∨ k = 6 ∨ k = 7 ∨ k = 8 ∨ k = 9 ∨ k = 10 := by omega
    · exact plays_order a b c u n d ha hb hc hu w hG
    · exact plays_canon a b c u n d ha hb hc hu w hG
    · exact plays_reduce a b c u n d ha hb hc hu w hG
    · exact plays_add a b c u n d ha hb hc hu w hG
    · exact plays_neg a b c u n d ha hb hc hu w hG
    · exact plays_muladd a b c u n d ha hb hc hu w hG
    · exact plays_invert a b c u n d ha hb hc hu w hG
    · exact plays_clamp a b c u n d ha hb hc hu w hG
    · exact plays_digits k h9 a b c u n d l ha w hS hG
end Go.Proofs.YteijccjdejjbjaaDoor
namespace Go.Proofs.YteijccjdejjbjaaDoor
open Go.RowKit Go.Shelf ScalarNum

set_option maxRecDepth 100000 in
set_option maxHeartbeats 1000000 in
theorem Digits_new (X k : Nat) (hX : X < M) (hk : 2 ≤ k) (hk8 : k ≤ 8) (w : World) :
    Calls Tryd.prog 26 #[yv 32 X, .int .i64 (k : Int)] w fun e w' => (∃ g, e = .returned (.tuple #[.slice (some ⟨g, 0, none⟩) 257 257, .int .i64 0]) ∧ w.heap.size ≤ g ∧ w'.rangeAt g 0 (dl k X 257) ∧ w'.there g 0 257) ∧ Grown w w' := by
  have h0 : (w.alloc (.cells (yl 32 X).toArray 23)).rangeAt w.heap.size 0 (yl 32 X) ∧ Grown w (w.alloc (.cells (yl 32 X).toArray 23)) := ⟨rangeAt_alloc_new w 23 (yl 32 X), Grown.alloc (Grown.refl _) _ _⟩
  have b1 : ¬ (k : Int) < 2 := by omega
  have b2 : ¬ (8 : Int) < (k : Int) := by omega
  rw [yv]
  go_enter Tryd.func26, Tryd.ntmps26
  go_wp2_with (with_reducible show wpList _ _ _ ({ dst := _, op := Op.load 23 _, type := _, pos := _, after := _, guard := _ } :: _) _ _; refine Shut.out ?_)
  show wpList _ _ _ _ _ _
  generalize (w.alloc (.cells (yl 32 X).toArray 23)) = W0 at *
  have H0 := Hid.of h0
  clear h0
  refine wpList_load32 rfl _ rfl w.heap.size rfl X H0.out.1 ?_
  simp only [Act.put, List.setIfInBounds_toArray, List.set_cons_zero, List.set_cons_succ]
  go_wp2_with fail
  refine Calls.mono (load_num X hX _) ?_
  rintro e w1 ⟨rfl, g1⟩
  dsimp only
  go_wp2_with fail
  refine Calls.mono (digitsOf_num X k hX hk hk8 _) ?_
  rintro e w2 ⟨⟨g, rfl, hg, hr, ht⟩, g2⟩
  dsimp only
  have H2 := Hid.of (And.intro hr (And.intro ht (And.intro (Nat.le_trans (grown_trans H0.out.2 g1).2.2 hg) (grown_trans H0.out.2 (grown_trans g1 g2)))))
  clear hr ht hg g1 g2 H0
  go_wp2
  go_ret2
  exact ⟨⟨g, rfl, H2.out.2.2.1, H2.out.1, H2.out.2.1⟩, H2.out.2.2.2⟩

def m85 : I8 := ⟨85, by decide⟩
theorem sl8_take {w : World} {a : Option Addr} {n c k : Nat} {l : List I8} (h : Sl8 w (.slice a n c) l) (hk : k ≤ l.length) : Sl8 w (.slice a k c) (l.take k) := by
  obtain ⟨a', c', e, hc, h⟩ := h
  cases e
  refine ⟨a, c, by rw [List.length_take, Nat.min_eq_left hk], by rw [List.length_take]; omega, ?_⟩
  rcases h with rfl | ⟨b, off, rfl, hb, hcell⟩
  · exact .inl (by simp)
  · exact .inr ⟨b, off, rfl, hb, fun i hi => by
      have hi' : i < l.length := by rw [List.length_take] at hi; omega
      rw [hcell i hi', List.getElem_take]⟩
/-- a cell of a list that is read -/
theorem Sl8.get {w : World} {v : Value} {l : List I8} (h : Sl8 w v l) {i : Nat} (hi : i < l.length) : ∃ b off c, v = .slice (some ⟨b, off, none⟩) l.length c ∧ l.length ≤ c ∧ w.cell? ⟨b, off + i, none⟩ = some (.int .i8 l[i].1) := by
  obtain ⟨a, c, rfl, hc, h⟩ := h
  rcases h with rfl | ⟨b, off, rfl, _, hcell⟩
  · simp at hi
  · exact ⟨b, off, c, rfl, hc, hcell i hi⟩
set_option maxRecDepth 100000 in
set_option maxHeartbeats 1000000 in
theorem given_walk (v : Value) (l : List I8) (w : World) (hS : Sl8 w v l) (hl : l.length ≤ 1048576) (hG : GS w) :
    Calls Tryd.prog 34 #[v] w fun e w' => e = .returned (.bool true) ∧ Lain w w' := by
  have HS := Hid.of hS
  have HG := Hid.of hG
  have hvM := Hid.of (valN_lt l)
  obtain ⟨a, c, rfl, hlc, _⟩ := hS
  clear hG
  go_enter Tryd.func34, Tryd.ntmps34
  go_wp2_with (with_reducible show wpList _ _ _ ({ dst := _, op := Op.call { callee := Callee.builtin Builtin.append, args := _, argTypes := _ }, type := _, pos := _, after := _, guard := _ } :: _) _ _; refine Shut.out ?_)
  show wpList _ _ _ _ _ _
  refine wpList_appSl8 rfl _ _ rfl w.heap.size _ _ [] l rfl (own8_nil _ _) rfl HS.out (by simp; omega) (Nat.le_refl _) ?_
  intro v1 w1 o1 k1
  rw [List.nil_append] at o1
  have H1 := Hid.of (And.intro o1 ((Lain.refl w).below (Nat.le_refl _) k1))
  clear o1 k1
  simp only [Act.put, List.setIfInBounds_toArray, List.set_cons_zero, List.set_cons_succ]
  go_wp2
  go_loopw [3, 4] (fun v3 v4 wr => ∃ i : Nat, v4 = .int .i64 (i : Int) ∧ i ≤ 600 ∧ Hid (Own8 wr w.heap.size v3 (l ++ List.replicate i m85) ∧ Lain w wr)) (fun _ v4 _ => 600 - (intOf v4).toNat)
  case atStart => exact ⟨0, rfl, by omega, by simpa using H1.out.1, H1.out.2⟩
  case round =>
    obtain ⟨i, rfl, hi, hI⟩ := hrel
    obtain ⟨wb, hwb⟩ : ∃ wb, wb = wr := ⟨_, rfl⟩
    subst hwb
    clear H1
    by_cases hlt : i < 600
    · have hlt' : (i : Int) < 600 := by omega
      go_wp2_with (with_reducible show wpList _ _ _ ({ dst := _, op := Op.call { callee := Callee.builtin Builtin.append, args := _, argTypes := _ }, type := _, pos := _, after := _, guard := _ } :: _) _ _; refine Shut.out ?_)
      show wpList _ _ _ _ _ _
      refine wpList_app81 rfl _ _ rfl w.heap.size _ (l ++ List.replicate i m85) [m85] rfl (by exact hI.out.1) 1 rfl (by simp; omega) hI.out.2.2.2.1 ?_
      intro v' w3 h3 k3
      rw [List.append_assoc, ← List.replicate_succ'] at h3
      have H3 := Hid.of (And.intro h3 (hI.out.2.below (Nat.le_refl _) k3))
      clear h3 k3
      simp only [Act.put, List.setIfInBounds_toArray, List.set_cons_zero, List.set_cons_succ]
      go_wp2
      go_roundw
      case rel => exact ⟨i + 1, by go_num, by omega, H3.out.1, H3.out.2⟩
      case measure => simp [intOf]; omega
    · obtain rfl : i = 600 := by omega
      obtain ⟨wl, hwl⟩ : ∃ wl, l ++ List.replicate 600 m85 = wl := ⟨_, rfl⟩
      have hwn : wl.length = l.length + 600 := by rw [← hwl]; simp
      have HWL := Hid.of hwl
      have hI2 := hI
      rw [hwl] at hI2
      clear hwl hI
      obtain ⟨b2, c2, rfl⟩ := hI2.out.1.len
      rw [hwn]
      have HW := Hid.of hI2.out.1.sl
      go_wp2_with fail
      refine Calls.mono (refValue8 _ l wb (HS.out.lain hI2.out.2) (HG.out.lain hI2.out.2).od) ?_
      rintro e w4 ⟨rfl, g4⟩
      dsimp only
      obtain ⟨E, hE⟩ : ∃ E, valE l = E := ⟨_, rfl⟩
      obtain ⟨V, hV⟩ : ∃ V, valN l = V := ⟨_, rfl⟩
      rw [hV] at hvM
      rw [hE, hV]
      have HE := Hid.of (And.intro hE hV)
      have H4 := Hid.of (And.intro (HW.out.lain (Lain.of g4)) (hI2.out.2.trans (Lain.of g4)))
      clear g4 hE hV hI2 HW
      go_wp2_with (with_reducible show wpList _ _ _ ({ dst := _, op := Op.store 23 _ _, type := _, pos := _, after := _, guard := _ } :: _) _ _; refine Shut.out ?_)
      show wpList _ _ _ _ _ _
      refine wpList_store_new V (by simp) rfl rfl rfl rfl (fun w5 hg5 hr5 _ => ?_)
      simp only [Act.put]
      have H5 := Hid.of (And.intro (H4.out.1.lain (Lain.of hg5)) (And.intro hr5 (H4.out.2.trans (Lain.of hg5))))
      clear H4 hg5 hr5
      generalize w4.heap.size = b5 at *
      refine wpList_val (.int .i64 E) rfl (by first | rfl | (go_simp; done)) ?_
      simp only [Act.put, List.setIfInBounds_toArray, List.set_cons_zero, List.set_cons_succ]
      apply wpList_nil
      have hcap : l.length + 600 ≤ c2 := by
        obtain ⟨_, _, e, hc, _⟩ := H5.out.1
        cases e
        omega
      have HV : Hid (Sl8 w5 (.slice b2 l.length c2) l) := by
        have h := H5.out.1
        have := sl8_take h (k := l.length) (by omega)
        rwa [← HWL.out, List.take_left] at this
      have hs1 : (l.length : Int) ≤ (c2 : Int) := by omega
      go_wp2_with fail
      refine Calls.mono (Value8 _ l w5 HV.out (HG.out.lain H5.out.2.2).tb) ?_
      rintro e w6 ⟨rfl, g6⟩
      rw [HE.out.1, HE.out.2]
      dsimp only
      have H6 := Hid.of (And.intro (H5.out.1.lain g6) (And.intro (g6.range H5.out.2.1) (H5.out.2.2.trans g6)))
      clear H5 HV g6
      go_wp2_with (with_reducible show wpList _ _ _ ({ dst := _, op := Op.store 23 _ _, type := _, pos := _, after := _, guard := _ } :: _) _ _; refine Shut.out ?_)
      show wpList _ _ _ _ _ _
      refine wpList_store_new V (by simp) rfl rfl rfl rfl (fun w7 hg7 hr7 _ => ?_)
      simp only [Act.put]
      have H7 := Hid.of (And.intro (H6.out.1.lain (Lain.of hg7)) (And.intro (rangeAt_grown H6.out.2.1 hg7) (And.intro hr7 (H6.out.2.2.trans (Lain.of hg7)))))
      clear H6 hg7 hr7
      generalize w6.heap.size = b7 at *
      refine wpList_val (.int .i64 E) rfl (by first | rfl | (go_simp; done)) ?_
      simp only [Act.put, List.setIfInBounds_toArray, List.set_cons_zero, List.set_cons_succ]
      apply wpList_nil
      go_wp2
      have HG1 : Hid (∀ i (hi : i < l.length), ∃ p1 q1 e1 p2 q2 e2, b2 = some ⟨p1, q1, none⟩ ∧ a = some ⟨p2, q2, none⟩ ∧ e1 = c2 ∧ e2 = c ∧ w7.cell? ⟨p1, q1 + i, none⟩ = some (.int .i8 l[i].1) ∧ w7.cell? ⟨p2, q2 + i, none⟩ = some (.int .i8 l[i].1)) := by
        intro i hi
        have h1 := H7.out.1
        obtain ⟨p1, q1, e1, ev, _, h2⟩ := h1.get (i := i) (by omega)
        obtain ⟨p2, q2, e2, ev2, _, h3⟩ := (HS.out.lain H7.out.2.2.2).get hi
        injection ev with ea _ eb
        injection ev2 with ea2 _ eb2
        have hx : wl[i] = l[i] := by
          have := HWL.out
          subst this
          rw [List.getElem_append_left hi]
        rw [hx] at h2
        exact ⟨p1, q1, e1, p2, q2, e2, ea, ea2, eb.symm, eb2.symm, h2, h3⟩
      have HG2 : Hid (∀ i, l.length ≤ i → i < l.length + 600 → ∃ p1 q1, b2 = some ⟨p1, q1, none⟩ ∧ w7.cell? ⟨p1, q1 + i, none⟩ = some (.int .i8 85)) := by
        intro i hi1 hi2
        have h1 := H7.out.1
        obtain ⟨p1, q1, e1, ev, _, h2⟩ := h1.get (i := i) (by omega)
        injection ev with ea _ _
        have hx : wl[i] = m85 := by
          have := HWL.out
          subst this
          rw [List.getElem_append_right hi1, List.getElem_replicate]
        rw [hx] at h2
        exact ⟨p1, q1, ea, h2⟩
      have hvM' := hvM
      clear HWL hvM
      go_loopw [9] (fun v9 wr => ∃ i : Nat, v9 = .int .i64 (i : Int) ∧ i ≤ l.length ∧ Hid (Lain w7 wr)) (fun v9 _ => l.length - (intOf v9).toNat)
      case atStart => exact ⟨0, rfl, by omega, Lain.refl _⟩
      case round =>
        obtain ⟨i, rfl, hi, hL⟩ := hrel
        by_cases hlt2 : i < l.length
        · have hlt3 : (i : Int) < (l.length : Int) := by omega
          have hlt4 : (i : Int) < (l.length : Int) + 600 := by omega
          obtain ⟨p1, q1, e1, p2, q2, e2, rfl, rfl, _, _, k1, k2⟩ := HG1.out i hlt2
          have q1' := (hL.out.cell _ (block_lt_of_cell k1)).trans k1
          have q2' := (hL.out.cell _ (block_lt_of_cell k2)).trans k2
          clear k1 k2
          generalize l[i] = x at *
          obtain ⟨xz, hxz⟩ := x
          dsimp only at q1' q2'
          go_wp2
          go_quiet (fail)
          go_wp2
          go_roundw
          case rel => exact ⟨i + 1, by go_num, by omega, hL.out⟩
          case measure => simp [intOf]; omega
        · obtain rfl : i = l.length := by omega
          obtain ⟨w8, hw8⟩ : ∃ w8, w8 = wr := ⟨_, rfl⟩
          subst hw8
          go_wp2
          go_loopw [10] (fun v10 wr => ∃ i : Nat, v10 = .int .i64 (i : Int) ∧ l.length ≤ i ∧ i ≤ l.length + 600 ∧ Hid (Lain w7 wr)) (fun v10 _ => l.length + 600 - (intOf v10).toNat)
          case atStart => exact ⟨l.length, rfl, by omega, by omega, hL.out⟩
          case round =>
            obtain ⟨i, rfl, hi1, hi2, hL2⟩ := hrel
            by_cases hlt2 : i < l.length + 600
            · have hlt4 : (i : Int) < (l.length : Int) + 600 := by omega
              obtain ⟨p1, q1, rfl, k1⟩ := HG2.out i hi1 hlt2
              have q1' := (hL2.out.cell _ (block_lt_of_cell k1)).trans k1
              clear k1
              go_wp2
              go_roundw
              case rel => exact ⟨i + 1, by go_num, by omega, by omega, hL2⟩
              case measure => simp [intOf]; omega
            · obtain rfl : i = l.length + 600 := by omega
              have H9 := Hid.of (And.intro (hL2.out.range H7.out.2.1) (And.intro (hL2.out.range H7.out.2.2.1) (H7.out.2.2.2.trans hL2.out)))
              go_wp2_with (with_reducible show wpList _ _ _ ({ dst := _, op := Op.load 23 _, type := _, pos := _, after := _, guard := _ } :: _) _ _; refine Shut.out ?_)
              show wpList _ _ _ _ _ _
              refine wpList_load32 rfl _ rfl b7 rfl V H9.out.2.1 ?_
              simp only [Act.put, List.setIfInBounds_toArray, List.set_cons_zero, List.set_cons_succ]
              refine wpList_load32 rfl _ rfl b5 rfl V H9.out.1 ?_
              simp only [Act.put, List.setIfInBounds_toArray, List.set_cons_zero, List.set_cons_succ]
              refine wpList_val (.bool true) rfl (exec_eql_same rfl V V rfl rfl hvM'.out hvM'.out rfl _) ?_
              simp only [Act.put, List.setIfInBounds_toArray, List.set_cons_zero, List.set_cons_succ]
              go_wp2
              go_ret
              exact ⟨rfl, H9.out.2.2⟩
end Go.Proofs.YteijccjdejjbjaaDoor
namespace Go.Proofs.YteijccjdejjbjaaDoor
open Go.RowKit Go.Shelf ScalarNum

/-- a kept answer: both lists are as they were left -/
def Ent (w : World) (v1 v2 : Value) (mk : I8) : Prop := ∃ p, p ≤ 257 ∧ Sl8 w v1 (List.replicate p mk) ∧ Sl8 w v2 (List.replicate (p + 1) mk)
theorem Ent.lain {w w' : World} {v1 v2 : Value} {mk : I8} (h : Ent w v1 v2 mk) (g : Lain w w') : Ent w' v1 v2 mk := by
  obtain ⟨p, hp, h1, h2⟩ := h
  exact ⟨p, hp, h1.lain g, h2.lain g⟩
abbrev HE := Value × Value × I8
def hcl : List HE → List Value
  | [] => []
  | e :: r => e.1 :: e.2.1 :: .int .i8 e.2.2.1 :: hcl r
theorem hcl_length (l : List HE) : (hcl l).length = l.length * 3 := by
  induction l with
  | nil => rfl
  | cons e r ih => simp only [hcl, List.length_cons, ih]; omega
theorem hcl_append (a b : List HE) : hcl (a ++ b) = hcl a ++ hcl b := by
  induction a with
  | nil => rfl
  | cons e r ih => simp only [List.cons_append, hcl, ih]
theorem hcl_get (l : List HE) : ∀ i (h : i < l.length), (hcl l)[i * 3]? = some l[i].1 ∧ (hcl l)[i * 3 + 1]? = some l[i].2.1 ∧ (hcl l)[i * 3 + 2]? = some (.int .i8 l[i].2.2.1) := by
  induction l with
  | nil => intro i h; simp at h
  | cons e r ih =>
    intro i h
    cases i with
    | zero => exact ⟨rfl, rfl, rfl⟩
    | succ i =>
      have := ih i (by simpa using h)
      simp only [hcl, List.getElem_cons_succ]
      rw [show (i + 1) * 3 = i * 3 + 1 + 1 + 1 by omega, show i * 3 + 1 + 1 + 1 + 1 = (i * 3 + 1) + 1 + 1 + 1 by omega, show i * 3 + 1 + 1 + 1 + 2 = (i * 3 + 2) + 1 + 1 + 1 by omega]
      simpa using this
/-- a book that is read -/
def BookR (w : World) (v : Value) (l : List HE) : Prop := ∃ a c, v = .slice a l.length c ∧ l.length ≤ c ∧ (l = [] ∨ ∃ b, a = some ⟨b, 0, none⟩ ∧ b < w.heap.size ∧ w.rangeAt b 0 (hcl l))
theorem BookR.lain {w w' : World} {v : Value} {l : List HE} (h : BookR w v l) (g : Lain w w') : BookR w' v l := by
  obtain ⟨a, c, e, hc, h⟩ := h
  refine ⟨a, c, e, hc, ?_⟩
  rcases h with h | ⟨b, e2, hb, hr⟩
  · exact .inl h
  · exact .inr ⟨b, e2, Nat.lt_of_lt_of_le hb g.2.2.1, g.range hr⟩
theorem rep_get (p : Nat) (mk : I8) {i : Nat} (h : i < (List.replicate p mk).length) : (List.replicate p mk)[i] = mk := by simp
set_option maxRecDepth 100000 in
set_option maxHeartbeats 1000000 in
theorem marked_walk (v : Value) (L : List HE) (w : World) (hB : BookR w v L) (hE : ∀ i (h : i < L.length), Ent w L[i].1 L[i].2.1 L[i].2.2) (hn : L.length ≤ 1048576) :
    Calls Tryd.prog 35 #[v] w fun e w' => e = .returned (.bool true) ∧ Lain w w' := by
  have HB := Hid.of hB
  have HE' := Hid.of hE
  obtain ⟨a, c, rfl, hlc, _⟩ := hB
  clear hE
  go_enter Tryd.func35, Tryd.ntmps35
  go_wp2
  go_loopw [3] (fun v3 wr => ∃ i : Nat, v3 = .int .i64 (i : Int) ∧ i ≤ L.length ∧ Hid (Lain w wr)) (fun v3 _ => L.length - (intOf v3).toNat)
  case atStart => exact ⟨0, rfl, by omega, Lain.refl _⟩
  case round =>
    obtain ⟨i, rfl, hi, hL⟩ := hrel
    obtain ⟨wb, hwb⟩ : ∃ wb, wb = wr := ⟨_, rfl⟩
    subst hwb
    by_cases hlt : i < L.length
    · have hlt' : (i : Int) < (L.length : Int) := by omega
      obtain ⟨a', c', e', _, hr⟩ := HB.out.lain hL.out
      cases e'
      rcases hr with e | ⟨b, rfl, hb, hr⟩
      · subst e; simp at hlt
      · obtain ⟨g1, g2, g3⟩ := hcl_get L i hlt
        have k1 := hr _ _ g1
        have k2 := hr _ _ g2
        have k3 := hr _ _ g3
        obtain ⟨p, hp, s1, s2⟩ := (HE'.out i hlt).lain hL.out
        rw [Nat.zero_add] at k1 k2 k3
        clear g1 g2 g3 hr
        generalize L[i] = e at *
        obtain ⟨v1, v2, mk, hmk⟩ := e
        dsimp only at k1 k2 k3 s1 s2
        have S1 := Hid.of s1
        have S2 := Hid.of s2
        obtain ⟨a1, c1, rfl, hc1, _⟩ := s1
        obtain ⟨a2, c2, rfl, hc2, _⟩ := s2
        rw [List.length_replicate] at k1 k2 hc1 hc2
        go_wp2
        have hbox := cells_new wb 55 [.slice a1 p c1, .slice a2 (p + 1) c2, .int .i8 mk]
        have x0 := hbox 0 _ rfl
        have x1 := hbox 1 _ rfl
        have x2 := hbox 2 _ rfl
        rw [add_plain, Nat.zero_add] at x0 x1 x2
        have HL1 := Hid.of (hL.out.alloc (.cells [.slice a1 p c1, .slice a2 (p + 1) c2, .int .i8 mk].toArray 55))
        have HLb := Hid.of ((Lain.refl wb).alloc (.cells [.slice a1 p c1, .slice a2 (p + 1) c2, .int .i8 mk].toArray 55))
        have HX : Hid (∀ j, j < p + 1 → ∃ g2 o2, a2 = some ⟨g2, o2, none⟩ ∧ (wb.alloc (.cells [.slice a1 p c1, .slice a2 (p + 1) c2, .int .i8 mk].toArray 55)).cell? ⟨g2, o2 + j, none⟩ = some (.int .i8 mk)) := by
          intro j hj
          obtain ⟨g2, o2, cc, ev, _, hc⟩ := (S2.out.lain HLb.out).get (i := j) (by simpa using hj)
          injection ev with ea _ _
          rw [rep_get] at hc
          exact ⟨g2, o2, ea, hc⟩
        have HY : Hid (∀ j, j < p → ∃ g1 o1, a1 = some ⟨g1, o1, none⟩ ∧ (wb.alloc (.cells [.slice a1 p c1, .slice a2 (p + 1) c2, .int .i8 mk].toArray 55)).cell? ⟨g1, o1 + j, none⟩ = some (.int .i8 mk)) := by
          intro j hj
          obtain ⟨g1, o1, cc, ev, _, hc⟩ := (S1.out.lain HLb.out).get (i := j) (by simpa using hj)
          injection ev with ea _ _
          rw [rep_get] at hc
          exact ⟨g1, o1, ea, hc⟩
        clear hbox k1 k2 k3 S1 S2 HLb HB hL
        generalize (wb.alloc (.cells [.slice a1 p c1, .slice a2 (p + 1) c2, .int .i8 mk].toArray 55)) = W1 at *
        obtain ⟨g2, o2, rfl, y1⟩ := HX.out p (by omega)
        have hpp : (p : Int) < (p : Int) + 1 := by omega
        generalize wb.heap.size = b4 at *
        go_quiet (fail)
        clear y1
        go_wp2
        go_loopw [5] (fun v5 wr => ∃ j : Nat, v5 = .int .i64 (j : Int) ∧ j ≤ p ∧ Hid (Lain W1 wr)) (fun v5 _ => p - (intOf v5).toNat)
        case atStart => exact ⟨0, rfl, by omega, Lain.refl _⟩
        case round =>
          obtain ⟨j, rfl, hj, hL2⟩ := hrel
          have y0 := (hL2.out.cell _ (block_lt_of_cell x0)).trans x0
          have y1 := (hL2.out.cell _ (block_lt_of_cell x1)).trans x1
          have y2 := (hL2.out.cell _ (block_lt_of_cell x2)).trans x2
          by_cases hlt2 : j < p
          · have hlt3 : (j : Int) < (p : Int) := by omega
            have hlt4 : (j : Int) < (p : Int) + 1 := by omega
            obtain ⟨g1, o1, rfl, z1⟩ := HY.out j hlt2
            obtain ⟨g2', o2', e2, z2⟩ := HX.out j (by omega)
            cases e2
            have z1' := (hL2.out.cell _ (block_lt_of_cell z1)).trans z1
            have z2' := (hL2.out.cell _ (block_lt_of_cell z2)).trans z2
            clear z1 z2
            go_wp2
            go_quiet (fail)
            go_wp2
            go_roundw
            case rel => exact ⟨j + 1, by go_num, by omega, hL2.out⟩
            case measure => simp [intOf]; omega
          · obtain rfl : j = p := by omega
            go_wp2
            go_roundw
            case rel => exact ⟨i + 1, by go_num, by omega, HL1.out.trans hL2.out⟩
            case measure => simp [intOf]; omega
    · obtain rfl : i = L.length := by omega
      go_wp2
      go_ret
      exact ⟨rfl, hL.out⟩
end Go.Proofs.YteijccjdejjbjaaDoor
namespace Go.Proofs.YteijccjdejjbjaaDoor
open Go.RowKit Go.Shelf ScalarNum

/-- the digits that are answered -/
def dgl (a : Nat) (n : Int) : List I8 := if 2 ≤ n ∧ n ≤ 8 then (List.range 257).map (fun j => toI8 (dn n.toNat a j)) else []
def dgE (n : Int) : Int := if 2 ≤ n ∧ n ≤ 8 then 0 else 1
theorem dgl_yes {a k : Nat} (h1 : 2 ≤ k) (h2 : k ≤ 8) : dgl a (k : Int) = (List.range 257).map (fun j => toI8 (dn k a j)) ∧ dgE (k : Int) = 0 := by
  unfold dgl dgE
  rw [if_pos ⟨by omega, by omega⟩, if_pos ⟨by omega, by omega⟩, Int.toNat_natCast]; exact ⟨rfl, rfl⟩
theorem dgl_no {a : Nat} {n : Int} (h : n < 2 ∨ 8 < n) : dgl a n = [] ∧ dgE n = 1 := by
  unfold dgl dgE
  rw [if_neg (by omega), if_neg (by omega)]; exact ⟨rfl, rfl⟩
theorem dgl_len (a : Nat) (n : Int) : (dgl a n).length ≤ 257 := by
  unfold dgl; split <;> simp
theorem dl_sl {w : World} {g c k a : Nat} (hk : 2 ≤ k) (hk8 : k ≤ 8) (hc : 257 ≤ c) (h : w.rangeAt g 0 (dl k a 257)) : Sl8 w (.slice (some ⟨g, 0, none⟩) 257 c) (dgl a (k : Int)) := by
  rw [(dgl_yes hk hk8).1]
  have hcell : ∀ j, j < 257 → w.cell? ⟨g, 0 + j, none⟩ = some (.int .i8 (dn k a j)) := fun j hj => by
    have := h j _ (dl_get k a 257 j hj); rwa [if_pos hj] at this
  refine ⟨some ⟨g, 0, none⟩, c, by simp, by simpa using hc, .inr ⟨g, 0, rfl, block_lt_of_cell (hcell 0 (by decide)), fun i hi => ?_⟩⟩
  have hi' : i < 257 := by simpa using hi
  rw [hcell i hi']
  simp only [List.getElem_map, List.getElem_range]
  rw [toI8, dif_pos (dn_i8 hk hk8)]
/-- a list of the call's own that is full: what Digits answers -/
def NewD (B : Nat) (w : World) (v : Value) (p : Nat) : Prop := (v = .slice none 0 0 ∧ p = 0) ∨ ∃ g, v = .slice (some ⟨g, 0, none⟩) p p ∧ B ≤ g ∧ w.there g 0 p ∧ 0 < p
theorem Digits_any (a : Nat) (n : Int) (ha : a < M) (w : World) : Calls Tryd.prog 26 #[yv 32 a, .int .i64 n] w fun e w' => (∃ v, e = .returned (.tuple #[v, .int .i64 (dgE n)]) ∧ NewD w.heap.size w' v (dgl a n).length ∧ Sl8 w' v (dgl a n)) ∧ Grown w w' := by
  by_cases hz : n < 2 ∨ 8 < n
  · rw [(dgl_no (a := a) hz).1, (dgl_no (a := a) hz).2]
    refine (Digits_bad a n hz w).mono fun e w' ⟨he, hg⟩ => ⟨⟨_, he, .inl ⟨rfl, rfl⟩, ⟨none, 0, rfl, Nat.le_refl _, .inl rfl⟩⟩, hg⟩
  · obtain ⟨k, rfl⟩ : ∃ k : Nat, n = (k : Int) := ⟨n.toNat, by omega⟩
    have h2 : 2 ≤ k := by omega
    have h8 : k ≤ 8 := by omega
    rw [(dgl_yes (a := a) h2 h8).2]
    refine (Digits_new a k ha h2 h8 w).mono fun e w' ⟨⟨g, he, hb, hr, ht⟩, hg⟩ => ?_
    have hl : (dgl a (k : Int)).length = 257 := by rw [(dgl_yes h2 h8).1]; simp
    exact ⟨⟨_, he, .inr ⟨g, by rw [hl], hb, by rw [hl]; exact ht, by rw [hl]; decide⟩, dl_sl h2 h8 (Nat.le_refl _) hr⟩, hg⟩
theorem refDigits_num2 (a k : Nat) (ha : a < M) (hk : 2 ≤ k) (hk8 : k ≤ 8) (w : World) : Calls Tryd.prog 32 #[yv 32 a, .int .i64 (k : Int)] w fun e w' => (∃ g cap, e = .returned (.tuple #[.slice (some ⟨g, 0, none⟩) 257 cap, .int .i64 0]) ∧ w'.rangeAt g 0 (dl k a 257)) ∧ Grown w w' := refDigits_num a k ha hk hk8 w
/-- as same asks: as many, each alike -/
def Sl8' (w : World) (v : Value) (l : List I8) : Prop := ∃ a c, v = .slice a l.length c ∧ (l = [] ∨ ∃ b off, a = some ⟨b, off, none⟩ ∧ b < w.heap.size ∧ ∀ i (h : i < l.length), w.cell? ⟨b, off + i, none⟩ = some (.int .i8 l[i].1))
theorem Sl8'.lain {w w' : World} {v : Value} {l : List I8} (h : Sl8' w v l) (k : Lain w w') : Sl8' w' v l := by
  obtain ⟨a, c, e, h⟩ := h
  refine ⟨a, c, e, ?_⟩
  rcases h with h | ⟨b, off, e2, hb, hc⟩
  · exact .inl h
  · exact .inr ⟨b, off, e2, Nat.lt_of_lt_of_le hb k.2.2.1, fun i hi => (k.cell _ hb).trans (hc i hi)⟩
theorem refDigits_any (a : Nat) (n : Int) (ha : a < M) (w : World) : Calls Tryd.prog 32 #[yv 32 a, .int .i64 n] w fun e w' => (∃ v, e = .returned (.tuple #[v, .int .i64 (dgE n)]) ∧ Sl8' w' v (dgl a n)) ∧ Grown w w' := by
  by_cases hz : n < 2 ∨ 8 < n
  · rw [(dgl_no (a := a) hz).1, (dgl_no (a := a) hz).2]
    refine (refDigits_bad a n hz w).mono fun e w' ⟨he, hg⟩ => ⟨⟨_, he, ⟨none, 0, rfl, .inl rfl⟩⟩, hg⟩
  · obtain ⟨k, rfl⟩ : ∃ k : Nat, n = (k : Int) := ⟨n.toNat, by omega⟩
    have h2 : 2 ≤ k := by omega
    have h8 : k ≤ 8 := by omega
    rw [(dgl_yes (a := a) h2 h8).2]
    refine (refDigits_num a k ha h2 h8 w).mono fun e w' ⟨⟨g, cap, he, hr⟩, hg⟩ => ?_
    obtain ⟨a1, c1, e1, _, h1⟩ := dl_sl (c := 257) h2 h8 (Nat.le_refl _) hr
    injection e1 with ea el _
    subst ea
    exact ⟨⟨_, he, ⟨_, cap, by rw [← el], h1⟩⟩, hg⟩
set_option maxRecDepth 100000 in
theorem same_any (v1 v2 : Value) (l : List I8) (w : World) (h1 : Sl8 w v1 l) (h2 : Sl8' w v2 l) (hl : l.length ≤ 257) :
    Calls Tryd.prog 33 #[v1, v2] w fun e w' => e = .returned (.bool true) ∧ Lain w w' := by
  have HC : Hid (∀ i (hi : i < l.length), ∃ g1 o1 c1 g2 o2 c2, v1 = .slice (some ⟨g1, o1, none⟩) l.length c1 ∧ v2 = .slice (some ⟨g2, o2, none⟩) l.length c2 ∧ w.cell? ⟨g1, o1 + i, none⟩ = some (.int .i8 l[i].1) ∧ w.cell? ⟨g2, o2 + i, none⟩ = some (.int .i8 l[i].1)) := by
    intro i hi
    obtain ⟨g1, o1, c1, e1, _, k1⟩ := h1.get hi
    obtain ⟨a2, c2, e2, hh⟩ := h2
    rcases hh with rfl | ⟨g2, o2, rfl, _, k2⟩
    · simp at hi
    · exact ⟨g1, o1, c1, g2, o2, c2, e1, e2, k1, k2 i hi⟩
  obtain ⟨a1, c1, rfl, _⟩ := h1
  obtain ⟨a2, c2, rfl, _⟩ := h2
  go_enter Tryd.func33, Tryd.ntmps33
  go_wp2
  go_loopw [5] (fun v5 wr => ∃ i : Nat, v5 = .int .i64 (i : Int) ∧ i ≤ l.length ∧ Hid (Lain w wr)) (fun v5 _ => l.length - (intOf v5).toNat)
  case atStart => exact ⟨0, rfl, by omega, Lain.refl _⟩
  case round =>
    obtain ⟨i, rfl, hi, hU⟩ := hrel
    by_cases hlt : i < l.length
    · have hlt' : (i : Int) < (l.length : Int) := by omega
      obtain ⟨g1, o1, d1, g2, o2, d2, e1, e2, k1, k2⟩ := HC.out i hlt
      injection e1 with e1 _ e1'
      injection e2 with e2 _ e2'
      subst e1 e1' e2 e2'
      have q1 := (hU.out.cell _ (block_lt_of_cell k1)).trans k1
      have q2 := (hU.out.cell _ (block_lt_of_cell k2)).trans k2
      clear k1 k2
      generalize l[i] = x at *
      obtain ⟨xz, hxz⟩ := x
      dsimp only at q1 q2
      go_wp2
      go_quiet (fail)
      go_wp2
      go_roundw
      case rel => exact ⟨i + 1, by go_num, by omega, hU.out⟩
      case measure => simp [intOf]; omega
    · obtain rfl : i = l.length := by omega
      go_wp2
      go_ret
      exact ⟨rfl, hU.out⟩
end Go.Proofs.YteijccjdejjbjaaDoor
