import Derived.Test.YteijccjdejjbjaaDoorHp
import Derived.Test.YteijccjdejjbjaaDoorRn
import Derived.Test.YteijccjdejjbjaaDoorRa
namespace Go.Proofs.YteijccjdejjbjaaDoor
open Go.RowKit Go.Shelf ScalarNum

theorem value_eq (f : Nat → I8) (len : Nat) : sadd (dsum (pp f 1) len % L) (sneg (dsum (pp f (-1)) len % L)) = vf (down len f len) := by
  have h := vf_sum f len
  rw [hs_parts] at h
  generalize dsum (pp f 1) len = A at *
  generalize dsum (pp f (-1)) len = B at *
  have hL : 0 < L := by decide
  have hA : (A : Int) = (L : Int) * ((A / L : Nat) : Int) + ((A % L : Nat) : Int) := by rw [← Int.natCast_mul, ← Int.natCast_add, Nat.div_add_mod]
  have hB : (B : Int) = (L : Int) * ((B / L : Nat) : Int) + ((B % L : Nat) : Int) := by rw [← Int.natCast_mul, ← Int.natCast_add, Nat.div_add_mod]
  have hle : B % L ≤ L := Nat.le_of_lt (Nat.mod_lt _ hL)
  have hs : sadd (A % L) (sneg (B % L)) = (A % L + (L - B % L)) % L := by unfold sadd sneg; rw [Nat.mod_mod, Nat.add_mod, Nat.mod_mod, Nat.mod_mod, Nat.add_mod (A % L) (L - B % L), Nat.mod_mod]
  have e : ((sadd (A % L) (sneg (B % L)) : Nat) : Int) = ((A : Int) - (B : Int)) % (L : Int) := by
    have key : (A : Int) - (B : Int) = ((A % L + (L - B % L) : Nat) : Int) + (L : Int) * (((A / L : Nat) : Int) - ((B / L : Nat) : Int) - 1) := by
      rw [hA, hB, Int.mul_sub, Int.mul_sub, Int.mul_one, Int.natCast_add, Int.ofNat_sub hle]
      generalize (L : Int) * ((A / L : Nat) : Int) = x1
      generalize (L : Int) * ((B / L : Nat) : Int) = x2
      generalize ((A % L : Nat) : Int) = x3
      generalize ((B % L : Nat) : Int) = x4
      generalize (L : Int) = x5
      omega
    rw [hs, key, Int.add_mul_emod_self_left, Int.natCast_emod]
  exact Int.ofNat.inj (e.trans h.symm)
theorem resRefValue : Tryd.f24.results = #[.cell 2 23, .tmp 3] := by kernel_rfl

set_option maxRecDepth 100000 in
set_option maxHeartbeats 600000 in
theorem refValue_num (a : Option Addr) (len cap : Nat) (f : Nat → I8) (hlen : len ≤ 300) (w : World) (hO : w.rangeAt 1 0 (yl 32 L))
    (hH : ∀ sg : Int, (sg = 1 ∨ sg = -1) → ∀ w', Grown w w' → Calls Tryd.prog 47 #[.slice a len cap, .int .i64 sg] w' fun e w'' => (∃ v, e = .returned v ∧ SL 40 (dsum (pp f sg) len) v w'') ∧ Grown w' w'') :
    Calls Tryd.prog 24 #[.slice a len cap] w fun e w' => e = .returned (.tuple #[yv 32 (vf (down len f len)), .int .i64 0]) ∧ Grown w w' := by
  have h0 := alloc2 w 23 23 (yl 32 0) (yl 32 0).toArray
  rw [show (yl 32 0).toArray.size = 32 from rfl] at h0
  have b1 : ¬ (300 : Int) < (len : Int) := by omega
  have HH := Hid.of (And.intro hH hO)
  have HB := Hid.of (show ∀ sg : Int, (sg = 1 ∨ sg = -1) → dsum (pp f sg) len < 256 ^ 40 from fun sg h => dsum_256 (pp_le h) hlen)
  clear hH hO
  go_enter Tryd.func24, Tryd.ntmps24
  go_wp2_with fail
  rw [← yl32_zero]
  generalize ((w.alloc (.cells (yl 32 0).toArray 23)).alloc (.cells (yl 32 0).toArray 23)) = W0 at *
  have H0 := Hid.of (And.intro h0.2.1 h0.2.2.2)
  clear h0
  refine Calls.mono (HH.out.1 (1) (.inl rfl) _ H0.out.2) ?_
  rintro e w1 ⟨⟨v1, rfl, g1, c1, rfl, hr1⟩, k1⟩
  dsimp only
  have HK1 := Hid.of (And.intro hr1 k1)
  clear hr1 k1
  go_wp2_with fail
  refine Calls.mono (rest_num g1 40 (dsum (pp f (1)) len) c1 (by decide) (HB.out (1) (.inl rfl)) _ HK1.out.1 (rangeAt_grown HH.out.2 (grown_trans H0.out.2 HK1.out.2))) ?_
  rintro e w2 ⟨rfl, m1⟩
  dsimp only
  have HM1 := Hid.of (grown_trans HK1.out.2 m1)
  clear m1 HK1
  go_wp2_with (with_reducible show wpList _ _ _ ({ dst := _, op := Op.store 23 _ _, type := _, pos := _, after := _, guard := _ } :: _) _ _; refine Shut.out ?_)
  show wpList _ _ _ _ _ _
  refine wpList_store_new (dsum (pp f (1)) len % L) (by simp) rfl rfl rfl rfl (fun w3 hg1 hr1 _ => ?_)
  simp only [Act.put]
  apply wpList_nil
  generalize w2.heap.size = s1 at *
  have H3 := Hid.of (And.intro (there_grown H0.out.1 (grown_trans HM1.out hg1)) (And.intro (grown_trans H0.out.2 (grown_trans HM1.out hg1)) hr1))
  clear H0 HM1 hg1 hr1
  go_wp2_with fail
  refine Calls.mono (HH.out.1 (-1) (.inr rfl) _ H3.out.2.1) ?_
  rintro e w4 ⟨⟨v2, rfl, g2, c2, rfl, hr2⟩, k2⟩
  dsimp only
  have HK2 := Hid.of (And.intro hr2 k2)
  clear hr2 k2
  go_wp2_with fail
  refine Calls.mono (rest_num g2 40 (dsum (pp f (-1)) len) c2 (by decide) (HB.out (-1) (.inr rfl)) _ HK2.out.1 (rangeAt_grown HH.out.2 (grown_trans H3.out.2.1 HK2.out.2))) ?_
  rintro e w5 ⟨rfl, m2⟩
  dsimp only
  have HM2 := Hid.of (grown_trans HK2.out.2 m2)
  clear m2 HK2
  go_wp2_with (with_reducible show wpList _ _ _ ({ dst := _, op := Op.store 23 _ _, type := _, pos := _, after := _, guard := _ } :: _) _ _; refine Shut.out ?_)
  show wpList _ _ _ _ _ _
  refine wpList_store_new (dsum (pp f (-1)) len % L) (by simp) rfl rfl rfl rfl (fun w6 hg2 hr2 _ => ?_)
  simp only [Act.put]
  apply wpList_nil
  generalize w5.heap.size = s2 at *
  have H6 := Hid.of (And.intro (there_grown H3.out.1 (grown_trans HM2.out hg2)) (And.intro (grown_trans H3.out.2.1 (grown_trans HM2.out hg2)) (And.intro (rangeAt_grown H3.out.2.2 (grown_trans HM2.out hg2)) hr2)))
  clear H3 HM2 hg2 hr2
  go_wp2_with (with_reducible show wpList _ _ _ ({ dst := _, op := Op.load 23 _, type := _, pos := _, after := _, guard := _ } :: _) _ _; refine Shut.out ?_)
  show wpList _ _ _ _ _ _
  refine wpList_load32 rfl _ rfl s2 rfl (dsum (pp f (-1)) len % L) H6.out.2.2.2 ?_
  simp only [Act.put, List.setIfInBounds_toArray, List.set_cons_zero, List.set_cons_succ]
  go_wp2_with fail
  refine Calls.mono (refNeg_num _ (modL_ltM _) _ (rangeAt_grown HH.out.2 H6.out.2.1)) ?_
  rintro e w7 ⟨rfl, k7⟩
  dsimp only
  have HK7 := Hid.of k7
  clear k7
  go_wp2_with (with_reducible show wpList _ _ _ ({ dst := _, op := Op.store 23 _ _, type := _, pos := _, after := _, guard := _ } :: _) _ _; refine Shut.out ?_)
  show wpList _ _ _ _ _ _
  refine wpList_store_new (sneg (dsum (pp f (-1)) len % L)) (by simp) rfl rfl rfl rfl (fun w8 hg8 hr8 _ => ?_)
  simp only [Act.put]
  apply wpList_nil
  generalize w7.heap.size = s3 at *
  have H8 := Hid.of (And.intro (there_grown H6.out.1 (grown_trans HK7.out hg8)) (And.intro (grown_trans H6.out.2.1 (grown_trans HK7.out hg8)) (And.intro (rangeAt_grown H6.out.2.2.1 (grown_trans HK7.out hg8)) hr8)))
  clear H6 HK7 hg8 hr8
  go_wp2_with (with_reducible show wpList _ _ _ ({ dst := _, op := Op.load 23 _, type := _, pos := _, after := _, guard := _ } :: _) _ _; refine Shut.out ?_)
  show wpList _ _ _ _ _ _
  refine wpList_load32 rfl _ rfl s1 rfl (dsum (pp f 1) len % L) H8.out.2.2.1 ?_
  simp only [Act.put, List.setIfInBounds_toArray, List.set_cons_zero, List.set_cons_succ]
  refine wpList_load32 rfl _ rfl s3 rfl (sneg (dsum (pp f (-1)) len % L)) H8.out.2.2.2 ?_
  simp only [Act.put, List.setIfInBounds_toArray, List.set_cons_zero, List.set_cons_succ]
  go_wp2_with fail
  refine Calls.mono (refAdd_num _ _ (modL_ltM _) (sneg_lt _) _ (rangeAt_grown HH.out.2 H8.out.2.1)) ?_
  rintro e w9 ⟨rfl, k9⟩
  dsimp only
  rw [value_eq]
  obtain ⟨v, hvE⟩ : ∃ v, vf (down len f len) = v := ⟨_, rfl⟩
  rw [hvE]
  have HV := Hid.of hvE
  have HK9 := Hid.of k9
  clear k9 hvE
  go_wp2_with (with_reducible show wpList _ _ _ ({ dst := _, op := Op.store 23 _ _, type := _, pos := _, after := _, guard := _ } :: _) _ _; refine Shut.out ?_)
  show wpList _ _ _ _ _ _
  refine wpList_store_new v (by simp) rfl rfl rfl rfl (fun w10 hg10 hr10 _ => ?_)
  simp only [Act.put]
  apply wpList_nil
  generalize w9.heap.size = s4 at *
  have H10 := Hid.of (And.intro (there_grown H8.out.1 (grown_trans HK9.out hg10)) (And.intro (grown_trans H8.out.2.1 (grown_trans HK9.out hg10)) hr10))
  clear H8 HK9 hg10 hr10
  go_wp2_with (with_reducible show wpList _ _ _ ({ dst := _, op := Op.load 23 _, type := _, pos := _, after := _, guard := _ } :: _) _ _; refine Shut.out ?_)
  show wpList _ _ _ _ _ _
  refine wpList_load32 rfl _ rfl s4 rfl v H10.out.2.2 ?_
  simp only [Act.put, List.setIfInBounds_toArray, List.set_cons_zero, List.set_cons_succ]
  refine wpList_store32 rfl _ _ rfl (w.heap.size) v rfl rfl H10.out.1 ?_
  simp only [Act.put]
  refine wpList_val (.int .i64 0) rfl (by kernel_rfl) ?_
  simp only [Act.put, List.setIfInBounds_toArray, List.set_cons_zero, List.set_cons_succ]
  apply wpList_nil
  repeat go_step
  refine bodyPost_ret (v := .tuple #[yv 32 v, .int .i64 0]) (result32t resRefValue _ _ (w.heap.size) _ _ ?hp ?hv (World.rangeAt_setCells_same _ _ _ _ (by rw [yl_length]; exact H10.out.1))) ?hd ?_
  case hp => rfl
  case hv => rfl
  case hd => rfl
  exact ⟨by rw [HV.out], grown_setCells (Nat.le_refl _) _ _ H10.out.2.1⟩
end Go.Proofs.YteijccjdejjbjaaDoor
