import Derived.Test.YteijccjdejjbjaaDoorQa10
import Derived.ProofKit
import Derived.ChangeSame
import Derived.WideKeyArgs
import Derived.DataReads
import Derived.Test.YteijccjdejjbjaaDoorTie
import Derived.Test.YteijccjdejjbjaaDoorCards
import Derived.LaidMore
import Derived.OpenShut
import Derived.Stop.Joined
import Derived.SevenTiedAt
namespace Go.Proofs.YteijccjdejjbjaaDoor
open Go.RowKit Go.Shelf ScalarNum

theorem value_eq (f : Nat → I8) (len : Nat) : sadd (dsum (pp f 1) len % L) (sneg (dsum (pp f (-1)) len % L)) = vf (down len f len) := by
  have h := vf_sum f len
  rw [hs_parts] at h
  generalize dsum (pp f 1) len = A at *
  generalize dsum (pp f (-1)) len = B at *
  have hL : 0 < L := by decide
  have hA : (A : Int) = (L : Int) * ((A / L : Nat) : Int) + ((A % L : Nat) : Int) := by rw [← Int.natCast_mul, ← Int.natCast_add, Nat.div_add_mod]
  have hB : (B : Int) = (L : Int) * ((B / L : Nat) : Int) + ((B % L : Nat) : Int) := by rw [← Int.natCast_mul, ← Int.natCast_add, Nat.div_add_mod]
  have hle : B % L ≤ L := Nat.le_of_lt (Nat.mod_lt _ hL)
  have hs : sadd (A % L) (sneg (B % L)) = (A % L + (L - B % L)) % L := by unfold sadd sneg; rw [Nat.mod_mod, Nat.add_mod, Nat.mod_mod, Nat.mod_mod, Nat.add_mod (A % L) (L - B % L), Nat.mod_mod]
  have e : ((sadd (A % L) (sneg (B % L)) : Nat) : Int) = ((A : Int) - (B : Int)) % (L : Int) := by
    have key : (A : Int) - (B : Int) = ((A % L + (L - B % L) : Nat) : Int) + (L : Int) * (((A / L : Nat) : Int) - ((B / L : Nat) : Int) - 1) := by
      rw [hA, hB, Int.mul_sub, Int.mul_sub, Int.mul_one, Int.natCast_add, Int.ofNat_sub hle]
      generalize (L : Int) * ((A / L : Nat) : Int) = x1
      generalize (L : Int) * ((B / L : Nat) : Int) = x2
      generalize ((A % L : Nat) : Int) = x3
      generalize ((B % L : Nat) : Int) = x4
      generalize (L : Int) = x5
      omega
    rw [hs, key, Int.add_mul_emod_self_left, Int.natCast_emod]
  exact Int.ofNat.inj (e.trans h.symm)
theorem resRefValue : Tryd.f24.results = #[.cell 2 23, .tmp 3] := by kernel_rfl

set_option maxRecDepth 100000 in
set_option maxHeartbeats 600000 in
theorem refValue_num (a : Option Addr) (len cap : Nat) (f : Nat → I8) (hlen : len ≤ 300) (w : World) (hO : w.rangeAt 1 0 (yl 32 L))
    (hH : ∀ sg : Int, (sg = 1 ∨ sg = -1) → ∀ w', Grown w w' → Calls Tryd.prog 47 #[.slice a len cap, .int .i64 sg] w' fun e w'' => (∃ v, e = .returned v ∧ SL 40 (dsum (pp f sg) len) v w'') ∧ Grown w' w'') :
    Calls Tryd.prog 24 #[.slice a len cap] w fun e w' => e = .returned (.tuple #[yv 32 (vf (down len f len)), .int .i64 0]) ∧ Grown w w' := by
  have h0 := alloc2 w 23 23 (yl 32 0) (yl 32 0).toArray
  rw [show (yl 32 0).toArray.size = 32 from rfl] at h0
  have b1 : ¬ (300 : Int) < (len : Int) := by omega
  have HH := Hid.of (And.intro hH hO)
  have HB := Hid.of (show ∀ sg : Int, (sg = 1 ∨ sg = -1) → dsum (pp f sg) len < 256 ^ 40 from fun sg h => dsum_256 (pp_le h) hlen)
  clear hH hO
  go_enter Tryd.func24, Tryd.ntmps24
  go_wp2_with fail
  rw [← yl32_zero]
  generalize ((w.alloc (.cells (yl 32 0).toArray 23)).alloc (.cells (yl 32 0).toArray 23)) = W0 at *
  have H0 := Hid.of (And.intro h0.2.1 h0.2.2.2)
  clear h0
  refine Calls.mono (HH.out.1 (1) (.inl rfl) _ H0.out.2) ?_
  rintro e w1 ⟨⟨v1, rfl, g1, c1, rfl, hr1⟩, k1⟩
  dsimp only
  have HK1 := Hid.of (And.intro hr1 k1)
  clear hr1 k1
  go_wp2_with fail
  refine Calls.mono (rest_num g1 40 (dsum (pp f (1)) len) c1 (by decide) (HB.out (1) (.inl rfl)) _ HK1.out.1 (rangeAt_grown HH.out.2 (grown_trans H0.out.2 HK1.out.2))) ?_
  rintro e w2 ⟨rfl, m1⟩
  dsimp only
  have HM1 := Hid.of (grown_trans HK1.out.2 m1)
  clear m1 HK1
  go_wp2_with (with_reducible show wpList _ _ _ ({ dst := _, op := Op.store 23 _ _, type := _, pos := _, after := _, guard := _ } :: _) _ _; refine Shut.out ?_)
  show wpList _ _ _ _ _ _
  refine wpList_store_new (dsum (pp f (1)) len % L) (by simp) rfl rfl rfl rfl (fun w3 hg1 hr1 _ => ?_)
  simp only [Act.put]
  apply wpList_nil
  generalize w2.heap.size = s1 at *
  have H3 := Hid.of (And.intro (there_grown H0.out.1 (grown_trans HM1.out hg1)) (And.intro (grown_trans H0.out.2 (grown_trans HM1.out hg1)) hr1))
  clear H0 HM1 hg1 hr1
  go_wp2_with fail
  refine Calls.mono (HH.out.1 (-1) (.inr rfl) _ H3.out.2.1) ?_
  rintro e w4 ⟨⟨v2, rfl, g2, c2, rfl, hr2⟩, k2⟩
  dsimp only
  have HK2 := Hid.of (And.intro hr2 k2)
  clear hr2 k2
  go_wp2_with fail
  refine Calls.mono (rest_num g2 40 (dsum (pp f (-1)) len) c2 (by decide) (HB.out (-1) (.inr rfl)) _ HK2.out.1 (rangeAt_grown HH.out.2 (grown_trans H3.out.2.1 HK2.out.2))) ?_
  rintro e w5 ⟨rfl, m2⟩
  dsimp only
  have HM2 := Hid.of (grown_trans HK2.out.2 m2)
  clear m2 HK2
  go_wp2_with (with_reducible show wpList _ _ _ ({ dst := _, op := Op.store 23 _ _, type := _, pos := _, after := _, guard := _ } :: _) _ _; refine Shut.out ?_)
  show wpList _ _ _ _ _ _
  refine wpList_store_new (dsum (pp f (-1)) len % L) (by simp) rfl rfl rfl rfl (fun w6 hg2 hr2 _ => ?_)
  simp only [Act.put]
  apply wpList_nil
  generalize w5.heap.size = s2 at *
  have H6 := Hid.of (And.intro (there_grown H3.out.1 (grown_trans HM2.out hg2)) (And.intro (grown_trans H3.out.2.1 (grown_trans HM2.out hg2)) (And.intro (rangeAt_grown H3.out.2.2 (grown_trans HM2.out hg2)) hr2)))
  clear H3 HM2 hg2 hr2
  go_wp2_with (with_reducible show wpList _ _ _ ({ dst := _, op := Op.load 23 _, type := _, pos := _, after := _, guard := _ } :: _) _ _; refine Shut.out ?_)
  show wpList _ _ _ _ _ _
  refine wpList_load32 rfl _ rfl s2 rfl (dsum (pp f (-1)) len % L) H6.out.2.2.2 ?_
  simp only [Act.put, List.setIfInBounds_toArray, List.set_cons_zero, List.set_cons_succ]
  go_wp2_with fail
  refine Calls.mono (refNeg_num _ (modL_ltM _) _ (rangeAt_grown HH.out.2 H6.out.2.1)) ?_
  rintro e w7 ⟨rfl, k7⟩
  dsimp only
  have HK7 := Hid.of k7
  clear k7
  go_wp2_with (with_reducible show wpList _ _ _ ({ dst := _, op := Op.store 23 _ _, type := _, pos := _, after := _, guard := _ } :: _) _ _; refine Shut.out ?_)
  show wpList _ _ _ _ _ _
  refine wpList_store_new (sneg (dsum (pp f (-1)) len % L)) (by simp) rfl rfl rfl rfl (fun w8 hg8 hr8 _ => ?_)
  simp only [Act.put]
  apply wpList_nil
  generalize w7.heap.size = s3 at *
  have H8 := Hid.of (And.intro (there_grown H6.out.1 (grown_trans HK7.out hg8)) (And.intro (grown_trans H6.out.2.1 (grown_trans HK7.out hg8)) (And.intro (rangeAt_grown H6.out.2.2.1 (grown_trans HK7.out hg8)) hr8)))
  clear H6 HK7 hg8 hr8
  go_wp2_with (with_reducible show wpList _ _ _ ({ dst := _, op := Op.load 23 _, type := _, pos := _, after := _, guard := _ } :: _) _ _; refine Shut.out ?_)
  show wpList _ _ _ _ _ _
  refine wpList_load32 rfl _ rfl s1 rfl (dsum (pp f 1) len % L) H8.out.2.2.1 ?_
  simp only [Act.put, List.setIfInBounds_toArray, List.set_cons_zero, List.set_cons_succ]
  refine wpList_load32 rfl _ rfl s3 rfl (sneg (dsum (pp f (-1)) len % L)) H8.out.2.2.2 ?_
  simp only [Act.put, List.setIfInBounds_toArray, List.set_cons_zero, List.set_cons_succ]
  go_wp2_with fail
  refine Calls.mono (refAdd_num _ _ (modL_ltM _) (sneg_lt _) _ (rangeAt_grown HH.out.2 H8.out.2.1)) ?_
  rintro e w9 ⟨rfl, k9⟩
  dsimp only
  rw [value_eq]
  obtain ⟨v, hvE⟩ : ∃ v, vf (down len f len) = v := ⟨_, rfl⟩
  rw [hvE]
  have HV := Hid.of hvE
  have HK9 := Hid.of k9
  clear k9 hvE
  go_wp2_with (with_reducible show wpList _ _ _ ({ dst := _, op := Op.store 23 _ _, type := _, pos := _, after := _, guard := _ } :: _) _ _; refine Shut.out ?_)
  show wpList _ _ _ _ _ _
  refine wpList_store_new v (by simp) rfl rfl rfl rfl (fun w10 hg10 hr10 _ => ?_)
  simp only [Act.put]
  apply wpList_nil
  generalize w9.heap.size = s4 at *
  have H10 := Hid.of (And.intro (there_grown H8.out.1 (grown_trans HK9.out hg10)) (And.intro (grown_trans H8.out.2.1 (grown_trans HK9.out hg10)) hr10))
  clear H8 HK9 hg10 hr10
  go_wp2_with (with_reducible show wpList _ _ _ ({ dst := _, op := Op.load 23 _, type := _, pos := _, after := _, guard := _ } :: _) _ _; refine Shut.out ?_)
  show wpList _ _ _ _ _ _
  refine wpList_load32 rfl _ rfl s4 rfl v H10.out.2.2 ?_
  simp only [Act.put, List.setIfInBounds_toArray, List.set_cons_zero, List.set_cons_succ]
  refine wpList_store32 rfl _ _ rfl (w.heap.size) v rfl rfl H10.out.1 ?_
  simp only [Act.put]
  refine wpList_val (.int .i64 0) rfl (by kernel_rfl) ?_
  simp only [Act.put, List.setIfInBounds_toArray, List.set_cons_zero, List.set_cons_succ]
  apply wpList_nil
  repeat go_step
  refine bodyPost_ret (v := .tuple #[yv 32 v, .int .i64 0]) (result32t resRefValue _ _ (w.heap.size) _ _ ?hp ?hv (World.rangeAt_setCells_same _ _ _ _ (by rw [yl_length]; exact H10.out.1))) ?hd ?_
  case hp => rfl
  case hv => rfl
  case hd => rfl
  exact ⟨by rw [HV.out], grown_setCells (Nat.le_refl _) _ _ H10.out.2.1⟩
end Go.Proofs.YteijccjdejjbjaaDoor
namespace Go.Proofs.YteijccjdejjbjaaDoor
open Go.RowKit Go.Shelf ScalarNum

set_option maxRecDepth 100000 in
set_option maxHeartbeats 600000 in
theorem heap_nil (a : Option Addr) (cap : Nat) (f : Nat → I8) (sg : Int) (hsg : sg = 1 ∨ sg = -1) (w : World) :
    Calls Tryd.prog 47 #[.slice a 0 cap, .int .i64 sg] w fun e w' => (∃ v, e = .returned v ∧ SL 40 (dsum (pp f sg) 0) v w') ∧ Grown w w' := by
  have hp : ∀ i, pp f sg i ≤ 128 := pp_le hsg
  have h0 : (w.alloc (.cells (sl (SS (pp f sg) 0)).toArray 91)).rangeAt w.heap.size 0 (sl (SS (pp f sg) 0)) ∧ (w.alloc (.cells (sl (SS (pp f sg) 0)).toArray 91)).there w.heap.size 0 40 ∧ Grown w (w.alloc (.cells (sl (SS (pp f sg) 0)).toArray 91)) :=
    ⟨rangeAt_alloc_new w 91 _, there_alloc_new w 91 _ 40 (by rw [List.size_toArray, sl_length]; exact Nat.le_refl _), Grown.alloc (Grown.refl _) _ _⟩
  have HP := Hid.of (And.intro hp hsg)
  clear hp hsg
  go_enter Tryd.func47, Tryd.ntmps47
  go_wp2
  go_loopw [6] (fun v6 wr => ∃ i : Nat, v6 = .int .i64 (i : Int) ∧ i ≤ 0 ∧ HX (w.alloc (.cells (sl (SS (pp f sg) 0)).toArray 91)) w.heap.size (pp f sg) i wr) (fun _ _ => 0)
  case atStart =>
    refine ⟨0, rfl, Nat.zero_le _, ?_⟩
    have e : ∀ W, W = (w.alloc (.cells (sl (SS (pp f sg) 0)).toArray 91)) → HX (w.alloc (.cells (sl (SS (pp f sg) 0)).toArray 91)) w.heap.size (pp f sg) 0 W := fun W e => by rw [e]; exact ⟨h0.1, h0.2.1, GB.refl _ _⟩
    exact e _ rfl
  case round =>
    obtain ⟨i, rfl, hi, hX⟩ := hrel
    generalize (w.alloc (.cells (sl (SS (pp f sg) 0)).toArray 91)) = W0 at *
    have HXX := Hid.of (And.intro hX h0)
    clear hX h0
    · obtain rfl : i = 0 := by omega
      have gwr : Grown w wr := GB.own HXX.out.2.2.2 (Nat.le_refl _) HXX.out.1.gb
      have HR := Hid.of (And.intro HXX.out.1.rg gwr)
      have HS := Hid.of (show ∀ k, SS (pp f sg) 0 k ≤ 4915200 from fun k => Nat.le_trans (SS_le HP.out.1 0 k) (by omega))
      have HTt := Hid.of (And.intro (tot_SS (pp f sg) 0 (by omega)) (dsum_256 (i := 0) HP.out.1 (by decide)))
      generalize SS (pp f sg) 0 = S at *
      obtain ⟨ii, hi1, hi2, hi3, hi4⟩ := hI8
      clear HXX gwr hi HP
      obtain ⟨wr2, eW⟩ : ∃ W1, W1 = wr := ⟨_, rfl⟩
      subst eW
      go_wp2
      go_loopw [10, 11, 12] (fun v10 v11 v12 wr' => ∃ k D c : Nat, v12 = .int .i64 (k : Int) ∧ v11 = .int .i64 (c : Int) ∧ k ≤ 40 ∧ c ≤ 4915200 ∧ D + c * 256 ^ k = tot S k ∧ OX wr2 v10 k D wr') (fun _ _ v12 _ => 40 - (intOf v12).toNat)
      case atStart => exact ⟨0, 0, 0, rfl, rfl, by decide, by decide, by simp [tot], World.ownsRow_nil _ _ _ _, .inl rfl, by decide, Grown.refl _⟩
      case round =>
        obtain ⟨k, D, c, rfl, rfl, hk, hc, he, hO⟩ := hrel
        have HO := Hid.of hO
        clear hO
        by_cases hlt : k < 40
        · have b1 : (k : Int) < 40 := Int.ofNat_lt.2 hlt
          have d1 : wr.cell? ⟨w.heap.size, k, none⟩ = some (.int .i64 (S k : Nat)) := by
            have := rangeAt_grown HR.out.1 HO.out.gw k _ (sl_get S k hlt); rwa [Nat.zero_add] at this
          have hSk := HS.out k
          have hst := Hid.of (carry_lay HO.out.lt he)
          generalize S k = x at *
          have es : (x : Int) + (c : Int) = ((x + c : Nat) : Int) := by omega
          have hs2 : x + c < 10000000 := by omega
          have hs3 : (x + c) / 256 ≤ 4915200 := by omega
          generalize x + c = s at *
          have q1 := tmods s
          have q2 := tdivs s
          have q3 := u8_of s
          have HL := Hid.of hs3
          clear he hs3 hSk
          go_wp2_with (with_reducible show wpList _ _ _ ({ dst := _, op := Op.call { callee := Callee.builtin Builtin.append, args := _, argTypes := _ }, type := _, pos := _, after := _, guard := _ } :: _) _ _; refine Shut.out ?_)
          show wpList _ _ _ _ _ _
          rw [show ((s : Int) % 256) = ((s % 256 : Nat) : Int) from by simp]
          refine wpList_append_one (W0 := wr2) rfl _ _ rfl Tryd.underlying64 hi1 hi2 hi3 hi4 rfl _ k (yl k D) rfl (HO.out.own.alloc _) ⟨wr.heap.size, 0, none⟩ 1 (.int .u8 ((s % 256 : Nat) : Int)) rfl (by simp [Addr.add]) rfl (Nat.lt_trans hlt (by decide)) (Grown.alloc HO.out.gw _ _) ?_
          intro v' w' ho' hgr hv' hg'
          rw [yl_lay HO.out.lt (Nat.mod_lt _ (by decide))] at ho'
          have HO' := Hid.of (show OX wr2 v' (k + 1) (D + s % 256 * 256 ^ k) w' from ⟨ho', .inr hv', hst.out.1, hg'⟩)
          clear ho' hgr hv' hg' HO d1
          simp only [Act.put, List.setIfInBounds_toArray, List.set_cons_zero, List.set_cons_succ]
          go_wp2
          go_roundw
          case rel => exact ⟨k + 1, D + s % 256 * 256 ^ k, s / 256, by go_num, by simp, hlt, HL.out, hst.out.2, HO'.out⟩
          case measure => simp [intOf]; omega
        · obtain rfl : k = 40 := by omega
          have hc0 : c = 0 := by
            have h1 := HTt.out.2
            rw [← HTt.out.1, ← he] at h1
            exact carry_none h1
          subst hc0
          rw [Nat.zero_mul, Nat.add_zero, HTt.out.1] at he
          subst he
          obtain ⟨g, cp, rfl⟩ := HO.out.sl.resolve_left (by decide)
          have HF := Hid.of (And.intro (owns_range HO.out.own) (grown_trans HR.out.2 HO.out.gw))
          clear HO HR HTt HS
          go_wp2
          go_loopw [10, 11] (fun v10 v11 wr' => v10 = .slice (some ⟨g, 0, none⟩) 40 cp ∧ v11 = .int .i64 0 ∧ wr' = wr) (fun _ _ _ => 0)
          case atStart => exact ⟨rfl, rfl, rfl⟩
          case round =>
            obtain ⟨rfl, rfl, rfl⟩ := hrel
            go_wp2
            go_ret
            exact ⟨⟨_, rfl, g, cp, rfl, HF.out.1⟩, HF.out.2⟩
end Go.Proofs.YteijccjdejjbjaaDoor
namespace Go.Proofs.YteijccjdejjbjaaDoor
open Go.RowKit Go.Shelf ScalarNum

set_option maxRecDepth 100000 in
set_option maxHeartbeats 400000 in
theorem refValue_long (a : Option Addr) (len cap : Nat) (hlen : 300 < len) (w : World) :
    Calls Tryd.prog 24 #[.slice a len cap] w fun e w' => e = .returned (.tuple #[yv 32 0, .int .i64 2]) ∧ Grown w w' := by
  have h0 := alloc2 w 23 23 (yl 32 0) (yl 32 0).toArray
  have hr1 : ((w.alloc (.cells (yl 32 0).toArray 23)).alloc (.cells (yl 32 0).toArray 23)).rangeAt (w.heap.size + 1) 0 (yl 32 0) := by
    have := rangeAt_alloc_new (w.alloc (.cells (yl 32 0).toArray 23)) 23 (yl 32 0)
    rwa [World.size_alloc] at this
  have b1 : (300 : Int) < (len : Int) := by omega
  go_enter Tryd.func24, Tryd.ntmps24
  go_wp2_with (with_reducible show wpList _ _ _ ({ dst := _, op := Op.load 23 _, type := _, pos := _, after := _, guard := _ } :: _) _ _; refine Shut.out ?_)
  show wpList _ _ _ _ _ _
  rw [← yl32_zero]
  generalize ((w.alloc (.cells (yl 32 0).toArray 23)).alloc (.cells (yl 32 0).toArray 23)) = W0 at *
  rw [yl_length] at h0
  have H0 := Hid.of (And.intro h0.2.1 (And.intro h0.2.2.2 hr1))
  clear h0 hr1 b1
  refine wpList_load32 rfl _ rfl (w.heap.size + 1) rfl 0 H0.out.2.2 ?_
  simp only [Act.put, List.setIfInBounds_toArray, List.set_cons_zero, List.set_cons_succ]
  refine wpList_store32 rfl _ _ rfl (w.heap.size) 0 rfl rfl H0.out.1 ?_
  simp only [Act.put]
  refine wpList_val (.int .i64 2) rfl (by kernel_rfl) ?_
  simp only [Act.put, List.setIfInBounds_toArray, List.set_cons_zero, List.set_cons_succ]
  apply wpList_nil
  repeat go_step
  refine bodyPost_ret (v := .tuple #[yv 32 0, .int .i64 2]) (result32t resRefValue _ _ (w.heap.size) _ _ ?hp ?hv (World.rangeAt_setCells_same _ _ _ _ (by rw [yl_length]; exact H0.out.1))) ?hd ?_
  case hp => rfl
  case hv => rfl
  case hd => rfl
  exact ⟨rfl, grown_setCells (Nat.le_refl _) _ _ H0.out.2.1⟩
end Go.Proofs.YteijccjdejjbjaaDoor
namespace Go.Proofs.YteijccjdejjbjaaDoor
open Go.RowKit Go.Shelf ScalarNum

set_option maxRecDepth 100000 in
set_option maxHeartbeats 400000 in
theorem Value_long (a : Option Addr) (len cap : Nat) (hlen : 300 < len) (w : World) :
    Calls Tryd.prog 21 #[.slice a len cap] w fun e w' => e = .returned (.tuple #[yv 32 0, .int .i64 2]) ∧ Lain w w' := by
  have h0 := alloc1 w 23 (yl 32 0).toArray
  rw [show (yl 32 0).toArray.size = 32 from rfl] at h0
  have b1 : (300 : Int) < (len : Int) := by omega
  go_enter Tryd.func21, Tryd.ntmps21
  go_wp2_with (with_reducible show wpList _ _ _ ({ dst := _, op := Op.build 23 _, type := _, pos := _, after := _, guard := _ } :: _) _ _; refine Shut.out ?_)
  show wpList _ _ _ _ _ _
  rw [← yl32_zero]
  generalize (w.alloc (.cells (yl 32 0).toArray 23)) = W0 at *
  have H0 := Hid.of (And.intro h0 (Lain.of h0.2))
  clear h0 b1
  refine wpList_val (yv 32 0) rfl (by kernel_rfl) ?_
  simp only [Act.put, List.setIfInBounds_toArray, List.set_cons_zero, List.set_cons_succ]
  refine wpList_store32 rfl _ _ rfl (w.heap.size) 0 rfl rfl H0.out.1.1 ?_
  simp only [Act.put]
  refine wpList_val (.int .i64 2) rfl (by kernel_rfl) ?_
  simp only [Act.put, List.setIfInBounds_toArray, List.set_cons_zero, List.set_cons_succ]
  apply wpList_nil
  repeat go_step
  refine bodyPost_ret (v := .tuple #[yv 32 0, .int .i64 2]) (result32t resValue _ _ (w.heap.size) _ _ ?hp ?hv (World.rangeAt_setCells_same _ _ _ _ (by rw [yl_length]; exact H0.out.1.1))) ?hd ?_
  case hp => rfl
  case hv => rfl
  case hd => rfl
  exact ⟨rfl, H0.out.2.set (Nat.le_refl _) _⟩
end Go.Proofs.YteijccjdejjbjaaDoor
namespace Go.Proofs.YteijccjdejjbjaaDoor
open Go.RowKit Go.Shelf ScalarNum

/-- Value's answer -/
def valN (l : List I8) : Nat := if l.length ≤ 300 then vf (down l.length (at8 l) l.length) else 0
def valE (l : List I8) : Int := if l.length ≤ 300 then 0 else 2
theorem valN_lt (l : List I8) : valN l < M := by
  unfold valN
  split
  · exact Nat.lt_trans (vf_lt _) L_lt_M
  · decide
theorem Value8 (v : Value) (l : List I8) (w : World) (hS : Sl8 w v l) (hT : Tab w) : Calls Tryd.prog 21 #[v] w fun e w' => e = .returned (.tuple #[yv 32 (valN l), .int .i64 (valE l)]) ∧ Lain w w' := by
  have hd := hS.dig
  obtain ⟨a, c, rfl, _⟩ := hS
  unfold valN valE
  by_cases h : l.length ≤ 300
  · rw [if_pos h, if_pos h]; exact Value_num a l.length c (at8 l) h w hT hd
  · rw [if_neg h, if_neg h]; exact Value_long a l.length c (by omega) w
theorem refValue8 (v : Value) (l : List I8) (w : World) (hS : Sl8 w v l) (hO : w.rangeAt 1 0 (yl 32 L)) : Calls Tryd.prog 24 #[v] w fun e w' => e = .returned (.tuple #[yv 32 (valN l), .int .i64 (valE l)]) ∧ Grown w w' := by
  obtain ⟨a, c, rfl, _, hh⟩ := hS
  unfold valN valE
  by_cases h : l.length ≤ 300
  · rw [if_pos h, if_pos h]
    refine refValue_num a l.length c (at8 l) h w hO (fun sg hsg w' hg => ?_)
    rcases hh with e | ⟨b, off, rfl, hb, hc⟩
    · subst e
      exact heap_nil a c (at8 []) sg hsg w'
    · exact heap_num b off l.length c (at8 l) sg hsg h w' (fun j hj => by rw [at8_lt hj]; exact (grown_cell hg _ _ hb).trans (hc j hj)) (Nat.lt_of_lt_of_le hb hg.2.2)
  · rw [if_neg h, if_neg h]; exact refValue_long a l.length c (by omega) w

set_option maxRecDepth 100000 in
set_option maxHeartbeats 1000000 in
theorem digits_nine (a b c u : Nat) (n : Int) (d : Value) (ha : a < M) (w : World) :
    Calls Tryd.prog 58 #[.agg (opc 9 a b c u n d).toArray] w fun e w' => e = .returned (.bool true) ∧ Lain w w' := by
  have h0 := ox_new w 9 a b c u n d 51
  have hk := h0.1.rk
  go_enter Tryd.func58, Tryd.ntmps58
  go_wp2_with (with_reducible show wpList _ _ _ ({ dst := _, op := Op.load 23 _, type := _, pos := _, after := _, guard := _ } :: _) _ _; refine Shut.out ?_)
  show wpList _ _ _ _ _ _
  generalize (w.alloc (.cells (opc 9 a b c u n d).toArray 51)) = W0 at *
  have H0 := Hid.of h0
  clear h0 hk
  refine wpList_load32o rfl _ rfl w.heap.size 1 rfl a H0.out.1.ra ?_
  simp only [Act.put, List.setIfInBounds_toArray, List.set_cons_zero, List.set_cons_succ]
  have hn0 := H0.out.1.rn
  by_cases hz : n < 2 ∨ 8 < n
  · go_wp2_with fail
    refine Calls.mono (Digits_bad a n hz W0) ?_
    rintro e w1 ⟨rfl, g1⟩
    dsimp only
    have H1 := Hid.of (And.intro (H0.out.1.lain (Lain.of g1)) (H0.out.2.trans (Lain.of g1)))
    clear H0 g1 hn0
    go_wp2_with (with_reducible show wpList _ _ _ ({ dst := _, op := Op.load 23 _, type := _, pos := _, after := _, guard := _ } :: _) _ _; refine Shut.out ?_)
    show wpList _ _ _ _ _ _
    refine wpList_load32o rfl _ rfl w.heap.size 1 rfl a H1.out.1.ra ?_
    simp only [Act.put, List.setIfInBounds_toArray, List.set_cons_zero, List.set_cons_succ]
    have hn0 := H1.out.1.rn
    go_wp2_with fail
    refine Calls.mono (refDigits_bad a n hz w1) ?_
    rintro e w2 ⟨rfl, g2⟩
    dsimp only
    have H2 := Hid.of (H1.out.2.trans (Lain.of g2))
    clear H1 g2 hn0
    go_wp2_with fail
    refine Calls.mono (same_nil w2) ?_
    rintro e w3 ⟨rfl, g3⟩
    dsimp only
    have H3 := Hid.of (H2.out.trans (Lain.of g3))
    clear H2 g3
    go_wp2
    go_ret
    exact ⟨rfl, H3.out⟩
  · obtain ⟨k, rfl⟩ : ∃ k : Nat, n = (k : Int) := ⟨n.toNat, by omega⟩
    have hk2 : 2 ≤ k := by omega
    have hk8 : k ≤ 8 := by omega
    clear hz
    go_wp2_with fail
    refine Calls.mono (Digits_num a k ha hk2 hk8 W0) ?_
    rintro e w1 ⟨⟨v1, rfl, g, rfl, hr1⟩, g1⟩
    dsimp only
    have H1 := Hid.of (And.intro (H0.out.1.lain (Lain.of g1)) (And.intro hr1 (H0.out.2.trans (Lain.of g1))))
    clear H0 g1 hn0 hr1
    go_wp2_with (with_reducible show wpList _ _ _ ({ dst := _, op := Op.load 23 _, type := _, pos := _, after := _, guard := _ } :: _) _ _; refine Shut.out ?_)
    show wpList _ _ _ _ _ _
    refine wpList_load32o rfl _ rfl w.heap.size 1 rfl a H1.out.1.ra ?_
    simp only [Act.put, List.setIfInBounds_toArray, List.set_cons_zero, List.set_cons_succ]
    have hn0 := H1.out.1.rn
    go_wp2_with fail
    refine Calls.mono (refDigits_num a k ha hk2 hk8 w1) ?_
    rintro e w2 ⟨⟨g2', cap, rfl, hr2⟩, g2⟩
    dsimp only
    have H2 := Hid.of (And.intro (rangeAt_grown H1.out.2.1 g2) (And.intro hr2 (H1.out.2.2.trans (Lain.of g2))))
    clear H1 g2 hn0 hr2
    go_wp2_with fail
    refine Calls.mono (same_num g g2' cap k a w2 H2.out.1 H2.out.2.1) ?_
    rintro e w3 ⟨rfl, g3⟩
    dsimp only
    have H3 := Hid.of (H2.out.2.2.trans (Lain.of g3))
    clear H2 g3
    go_wp2
    go_ret
    exact ⟨rfl, H3.out⟩

set_option maxRecDepth 100000 in
set_option maxHeartbeats 1000000 in
theorem digits_ten (a b c u : Nat) (n : Int) (d : Value) (l : List I8) (w : World) (hS : Sl8 w d l) (hG : GS w) :
    Calls Tryd.prog 58 #[.agg (opc 10 a b c u n d).toArray] w fun e w' => e = .returned (.bool true) ∧ Lain w w' := by
  have h0 := ox_new w 10 a b c u n d 51
  have HG := Hid.of hG
  have HS := Hid.of hS
  have hk := h0.1.rk
  have hd := h0.1.rd
  have hvM := Hid.of (valN_lt l)
  have H0 := Hid.of h0
  obtain ⟨sa, sc, rfl, _⟩ := hS
  clear h0 hG
  go_enter Tryd.func58, Tryd.ntmps58
  go_wp2_with fail
  generalize (w.alloc (.cells (opc 10 a b c u n (.slice sa l.length sc)).toArray 51)) = W0 at *
  refine Calls.mono (refValue8 _ l W0 (HS.out.lain H0.out.2) (HG.out.lain H0.out.2).od) ?_
  rintro e w1 ⟨rfl, g1⟩
  dsimp only
  have H1 := Hid.of (And.intro (H0.out.1.lain (Lain.of g1)) (H0.out.2.trans (Lain.of g1)))
  clear H0 g1 hd hk
  obtain ⟨E, hE⟩ : ∃ E, valE l = E := ⟨_, rfl⟩
  obtain ⟨V, hV⟩ : ∃ V, valN l = V := ⟨_, rfl⟩
  rw [hV] at hvM
  rw [hE, hV]
  have HE := Hid.of (And.intro hE hV)
  clear hE hV
  go_wp2_with (with_reducible show wpList _ _ _ ({ dst := _, op := Op.store 23 _ _, type := _, pos := _, after := _, guard := _ } :: _) _ _; refine Shut.out ?_)
  show wpList _ _ _ _ _ _
  refine wpList_store_new V (by simp) rfl rfl rfl rfl (fun w2 hg2 hr2 _ => ?_)
  simp only [Act.put]
  have H2 := Hid.of (And.intro (H1.out.1.lain (Lain.of hg2)) (And.intro hr2 (H1.out.2.trans (Lain.of hg2))))
  clear H1 hg2 hr2
  generalize w1.heap.size = b7 at *
  refine wpList_val (.int .i64 E) rfl (by first | rfl | (go_simp; done)) ?_
  simp only [Act.put, List.setIfInBounds_toArray, List.set_cons_zero, List.set_cons_succ]
  apply wpList_nil
  have hd := H2.out.1.rd
  go_wp2_with fail
  refine Calls.mono (Value8 _ l w2 (HS.out.lain H2.out.2.2) (HG.out.lain H2.out.2.2).tb) ?_
  rintro e w3 ⟨rfl, g3⟩
  rw [HE.out.1, HE.out.2]
  dsimp only
  have H3 := Hid.of (And.intro (g3.range H2.out.2.1) (H2.out.2.2.trans g3))
  clear H2 g3 hd
  go_wp2_with (with_reducible show wpList _ _ _ ({ dst := _, op := Op.store 23 _ _, type := _, pos := _, after := _, guard := _ } :: _) _ _; refine Shut.out ?_)
  show wpList _ _ _ _ _ _
  refine wpList_store_new V (by simp) rfl rfl rfl rfl (fun w4 hg4 hr4 _ => ?_)
  simp only [Act.put]
  have H4 := Hid.of (And.intro (rangeAt_grown H3.out.1 hg4) (And.intro hr4 (H3.out.2.trans (Lain.of hg4))))
  clear H3 hg4 hr4
  generalize w3.heap.size = b9 at *
  refine wpList_val (.int .i64 E) rfl (by first | rfl | (go_simp; done)) ?_
  simp only [Act.put, List.setIfInBounds_toArray, List.set_cons_zero, List.set_cons_succ]
  apply wpList_nil
  go_wp2_with (with_reducible show wpList _ _ _ ({ dst := _, op := Op.load 23 _, type := _, pos := _, after := _, guard := _ } :: _) _ _; refine Shut.out ?_)
  show wpList _ _ _ _ _ _
  refine wpList_load32 rfl _ rfl b9 rfl V H4.out.2.1 ?_
  simp only [Act.put, List.setIfInBounds_toArray, List.set_cons_zero, List.set_cons_succ]
  refine wpList_load32 rfl _ rfl b7 rfl V H4.out.1 ?_
  simp only [Act.put, List.setIfInBounds_toArray, List.set_cons_zero, List.set_cons_succ]
  refine wpList_val (.bool true) rfl (exec_eql_same rfl V V rfl rfl hvM.out hvM.out rfl _) ?_
  simp only [Act.put, List.setIfInBounds_toArray, List.set_cons_zero, List.set_cons_succ]
  go_wp2
  go_ret
  exact ⟨rfl, H4.out.2.2⟩

set_option maxRecDepth 100000 in
theorem infoOp : (Tryd.prog.info? 51).map (·.size) = some 163 := by kernel_rfl
theorem wpList_loadOp {ops : Array Oper} {rest : List Oper} {op : Oper} {a : Act} {w : World} {Q : Exit → Act → World → Prop} (hgd : op.guard = none) (x : Operand) (ho : op.op = .load 51 x)
    (p o : Nat) (hx : a.eval x = .pointer (some ⟨p, o, none⟩)) (k : Int) (xa xb xc xu : Nat) (n : Int) (d : Value) (hc : w.rangeAt p o (opc k xa xb xc xu n d))
    (h : wpList Tryd.prog ops Q rest (a.put op.dst (.agg (opc k xa xb xc xu n d).toArray)) w) : wpList Tryd.prog ops Q (op :: rest) a w :=
  wpList_load_mid hgd 51 x ho p o hx (opc k xa xb xc xu n d) _ hc Tryd.underlying51 rfl (by rw [opc_length]; exact infoOp) h
set_option maxRecDepth 100000 in
set_option maxHeartbeats 1000000 in
theorem plays_digits (k : Int) (hk9 : k = 9 ∨ k = 10) (a b c u : Nat) (n : Int) (d : Value) (l : List I8) (ha : a < M) (w : World) (hS : Sl8 w d l) (hG : GS w) :
    Calls Tryd.prog 38 #[.agg (opc k a b c u n d).toArray] w fun e w' => e = .returned (.bool true) ∧ Lain w w' := by
  have hr := rangeAt_alloc_new w 51 (opc k a b c u n d)
  have h0 := ox_new w k a b c u n d 51
  have HG := Hid.of hG
  have HS := Hid.of hS
  have hk := h0.1.rk
  have H0 := Hid.of (And.intro hr h0.2)
  clear h0 hG hr hS
  have key : Hid (∀ W0, Lain w W0 → Calls Tryd.prog 58 #[.agg (opc k a b c u n d).toArray] W0 fun e w' => e = .returned (.bool true) ∧ Lain W0 w') := by
    intro W0 g
    rcases hk9 with rfl | rfl
    · exact digits_nine a b c u n d ha W0
    · exact digits_ten a b c u n d l W0 (HS.out.lain g) (HG.out.lain g)
  rcases hk9 with rfl | rfl
  · go_enter Tryd.func38, Tryd.ntmps38
    go_wp2_with (with_reducible show wpList _ _ _ ({ dst := _, op := Op.load 51 _, type := _, pos := _, after := _, guard := _ } :: _) _ _; refine Shut.out ?_)
    show wpList _ _ _ _ _ _
    generalize (w.alloc (.cells (opc 9 a b c u n d).toArray 51)) = W0 at *
    refine wpList_loadOp rfl _ rfl w.heap.size 0 rfl 9 a b c u n d H0.out.1 ?_
    simp only [Act.put, List.setIfInBounds_toArray, List.set_cons_zero, List.set_cons_succ]
    go_wp2_with fail
    refine Calls.mono (key.out W0 H0.out.2) ?_
    rintro e w1 ⟨rfl, g1⟩
    have H1 := Hid.of (H0.out.2.trans g1)
    clear g1 H0
    dsimp only
    go_wp2
    go_ret
    exact ⟨rfl, H1.out⟩
  · go_enter Tryd.func38, Tryd.ntmps38
    go_wp2_with (with_reducible show wpList _ _ _ ({ dst := _, op := Op.load 51 _, type := _, pos := _, after := _, guard := _ } :: _) _ _; refine Shut.out ?_)
    show wpList _ _ _ _ _ _
    generalize (w.alloc (.cells (opc 10 a b c u n d).toArray 51)) = W0 at *
    refine wpList_loadOp rfl _ rfl w.heap.size 0 rfl 10 a b c u n d H0.out.1 ?_
    simp only [Act.put, List.setIfInBounds_toArray, List.set_cons_zero, List.set_cons_succ]
    go_wp2_with fail
    refine Calls.mono (key.out W0 H0.out.2) ?_
    rintro e w1 ⟨rfl, g1⟩
    have H1 := Hid.of (H0.out.2.trans g1)
    clear g1 H0
    dsimp only
    go_wp2
    go_ret
    exact ⟨rfl, H1.out⟩
theorem plays_any (k : Int) (a b c u : Nat) (n : Int) (d : Value) (l : List I8) (ha : a < M) (hb : b < M) (hc : c < M) (hu : u < M * M) (w : World) (hS : Sl8 w d l) (hG : GS w) :
    Calls Tryd.prog 38 #[.agg (opc k a b c u n d).toArray] w fun e w' => e = .returned (.bool true) ∧ Lain w w' := by
  by_cases h : k < 1 ∨ 10 < k
  · exact plays_none k a b c u n d h w
  · obtain rfl | rfl | rfl | rfl | rfl | rfl | rfl | rfl | h9 : k = 1 ∨ k = 2 ∨ k = 3 ∨ k = 4 ∨ k = 5 ∨ k = 6 ∨ k = 7 ∨ k = 8 ∨ k = 9 ∨ k = 10 := by omega
    · exact plays_order a b c u n d ha hb hc hu w hG
    · exact plays_canon a b c u n d ha hb hc hu w hG
    · exact plays_reduce a b c u n d ha hb hc hu w hG
    · exact plays_add a b c u n d ha hb hc hu w hG
    · exact plays_neg a b c u n d ha hb hc hu w hG
    · exact plays_muladd a b c u n d ha hb hc hu w hG
    · exact plays_invert a b c u n d ha hb hc hu w hG
    · exact plays_clamp a b c u n d ha hb hc hu w hG
    · exact plays_digits k h9 a b c u n d l ha w hS hG
end Go.Proofs.YteijccjdejjbjaaDoor
namespace Go.Proofs.YteijccjdejjbjaaDoor
open Go.RowKit Go.Shelf ScalarNum

theorem wpList_valG {ops : Array Oper} {Q : Exit → Act → World → Prop} {rest : List Oper} {o : Oper} {a : Act} {w : World} (v : Value) (hw : Region.wanted o (yielded ops a.tmps) = true) (hy : (execOp a.eval o).run Tryd.prog w = .ok (.value v) w)
    (h : wpList Tryd.prog ops Q rest (a.put o.dst v) w) : wpList Tryd.prog ops Q (o :: rest) a w :=
  wpList_step fun K hK => by
    rw [if_pos hw]
    unfold Oper.wp
    rw [hy]
    exact hK _ _ h
set_option maxRecDepth 100000 in
theorem numbers_walk (w : World) : Calls Tryd.prog 36 #[] w fun e w' => e = .returned (.bool true) ∧ w' = w := by
  go_enter Tryd.func36, Tryd.ntmps36
  go_wp2
  go_ret
  exact ⟨rfl, rfl⟩
/-- one call of a script, as it lies -/
structure Op1 (w : World) (p off : Nat) : Prop where
  ex : ∃ (k : Int) (a b c u : Nat) (n : Int) (d : Value) (l : List I8), a < M ∧ b < M ∧ c < M ∧ u < M * M ∧ Sl8 w d l ∧ w.rangeAt p off (opc k a b c u n d)
theorem exec_idxOp {o : Oper} {ρ : Operand → Value} {x y : Operand} {w : World} {b off n c : Nat} (i : Nat) (hi : i < n) (ho : o.op = .indexAddr 48 x y) (hx : ρ x = .slice (some ⟨b, off, none⟩) n c) (hy : ρ y = .int .i64 (i : Int)) : (execOp ρ o).run Tryd.prog w = .ok (.value (.pointer (some ⟨b, off + 163 * i, none⟩))) w := by
  have hi' : (i : Int) < (n : Int) := by omega
  unfold execOp
  simp only [ho, hx, hy]
  go_simp
set_option maxRecDepth 100000 in
set_option maxHeartbeats 1000000 in
theorem all_walk (a0 : Option Addr) (n0 c0 : Nat) (w : World) (hn0 : (n0 : Int) ≤ 9223372036854775807) (hsc : 0 < n0 → ∃ b off, a0 = some ⟨b, off, none⟩ ∧ ∀ i, i < n0 → Op1 w b (off + 163 * i)) (hG : GS w) :
    Calls Tryd.prog 14 #[.slice a0 n0 c0] w fun e w' => e = .returned (.bool true) ∧ Lain w w' := by
  have HG := Hid.of hG
  have HS := Hid.of hsc
  clear hG hsc
  go_enter Tryd.func14, Tryd.ntmps14
  go_wp2_with fail
  refine Calls.mono (numbers_walk w) ?_
  rintro e w1 ⟨rfl, rfl⟩
  dsimp only
  go_wp2_with fail
  refine Calls.mono (Order_num w1 HG.out.tb) ?_
  rintro e w2 ⟨rfl, hg2⟩
  dsimp only
  have H2 := Hid.of (Lain.of hg2)
  clear hg2
  go_wp2_with fail
  refine Calls.mono (refOrder_num w2 (HG.out.lain H2.out).od) ?_
  rintro e w3 ⟨rfl, hg3⟩
  dsimp only
  have H3 := Hid.of (H2.out.trans (Lain.of hg3))
  clear H2 hg3
  go_wp2_with (with_reducible show wpList _ _ _ ({ dst := _, op := Op.binOp .neq 23 _ _ _, type := _, pos := _, after := _, guard := _ } :: _) _ _; refine Shut.out ?_)
  show wpList _ _ _ _ _ _
  refine wpList_valG (.bool false) (by rfl) (exec_neq_same rfl L L rfl rfl L_lt_M L_lt_M rfl _) ?_
  simp only [Act.put, List.setIfInBounds_toArray, List.set_cons_zero, List.set_cons_succ]
  go_wp2
  go_loopw [3] (fun v3 wr => ∃ i : Nat, v3 = .int .i64 (i : Int) ∧ i ≤ n0 ∧ Hid (Lain w1 wr)) (fun v3 _ => n0 - (intOf v3).toNat)
  case atStart => exact ⟨0, rfl, by omega, H3⟩
  case round =>
    obtain ⟨i, rfl, hi, hL⟩ := hrel
    by_cases hlt : i < n0
    · have hlt' : (i : Int) < (n0 : Int) := by omega
      obtain ⟨b, off, rfl, hop⟩ := HS.out (by omega)
      obtain ⟨k, a, xb, c, u, n, d, l, ha, hb, hc, hu, hSl, hr⟩ := (hop i hlt).ex
      have HR := Hid.of (And.intro (hL.out.range hr) (hSl.lain hL.out))
      clear hr hSl hop
      go_wp2_with (with_reducible show wpList _ _ _ ({ dst := _, op := Op.indexAddr _ _ _, type := _, pos := _, after := _, guard := _ } :: _) _ _; refine Shut.out ?_)
      show wpList _ _ _ _ _ _
      refine wpList_val (.pointer (some ⟨b, off + 163 * i, none⟩)) rfl (exec_idxOp i hlt rfl rfl rfl) ?_
      simp only [Act.put, List.setIfInBounds_toArray, List.set_cons_zero, List.set_cons_succ]
      refine wpList_loadOp rfl _ rfl b (off + 163 * i) rfl k a xb c u n d HR.out.1 ?_
      simp only [Act.put, List.setIfInBounds_toArray, List.set_cons_zero, List.set_cons_succ]
      go_wp2_with fail
      refine Calls.mono (plays_any k a xb c u n d l ha hb hc hu wr HR.out.2 (HG.out.lain hL.out)) ?_
      rintro e w5 ⟨rfl, g5⟩
      have H5 := Hid.of (hL.out.trans g5)
      clear g5 HR hL
      dsimp only
      go_wp2
      go_roundw
      case rel => exact ⟨i + 1, by go_num, by omega, H5⟩
      case measure => simp [intOf]; omega
    · obtain rfl : i = n0 := by omega
      go_wp2
      go_ret
      exact ⟨rfl, hL.out⟩
end Go.Proofs.YteijccjdejjbjaaDoor
namespace Go.Proofs.YteijccjdejjbjaaDoor
open Go.ChangeShapes Go.WideShapes Go.ChangeAt Go.RowKit Go.Shelf ScalarNum

theorem Tryd.own : ownKnob Tryd.prog.godebug = none := by kernel_rfl

theorem exists_digits0 (f : Nat → Nat) (hf : ∀ i, f i < 256) : ∀ k : Nat, ∃ a : Nat, a < 256 ^ k ∧ ∀ i, i < k → a / 256 ^ i % 256 = f i
  | 0 => ⟨0, by simp, fun i hi => by omega⟩
  | k + 1 => by
    obtain ⟨a, ha, h⟩ := exists_digits0 f hf k
    refine ⟨a + f k * 256 ^ k, ?_, fun i hi => ?_⟩
    · rw [Nat.pow_succ]
      have := hf k
      have h2 : (f k + 1) * 256 ^ k ≤ 256 * 256 ^ k := Nat.mul_le_mul_right _ (by omega)
      rw [Nat.add_mul] at h2
      omega
    · by_cases hik : i = k
      · subst hik
        rw [Nat.add_mul_div_right _ _ (Nat.pow_pos (by decide)), Nat.div_eq_of_lt ha, Nat.zero_add, Nat.mod_eq_of_lt (hf i)]
      · have hlt : i < k := by omega
        rw [← h i hlt]
        obtain ⟨d, rfl⟩ : ∃ d, k = i + 1 + d := ⟨k - (i + 1), by omega⟩
        have e : f (i + 1 + d) * 256 ^ (i + 1 + d) = (f (i + 1 + d) * 256 ^ d * 256) * 256 ^ i := by
          rw [Nat.pow_add, Nat.pow_succ]
          simp only [Nat.mul_assoc, Nat.mul_left_comm, Nat.mul_comm]
        rw [e, Nat.add_mul_div_right _ _ (Nat.pow_pos (by decide)), Nat.add_mul_mod_self_right]

theorem exists_digits (f : Nat → Nat) (hf : ∀ i, f i < 256) (k : Nat) : ∃ a : Nat, a < 256 ^ k ∧ ∀ i, i < k → dg 256 a i = f i := exists_digits0 f hf k

/-- what is read of 32 bytes -/
def da (H : Type) (a : Nat) : DataW H := .agg ((List.range 32).map fun i => .lit (.int .u8 ((dg 256 a i : Nat) : Int)))

theorem mapM_all {α β : Type} (f : α → Option β) (g : α → β) : ∀ l : List α, (∀ x ∈ l, f x = some (g x)) → l.mapM f = some (l.map g)
  | [], _ => rfl
  | x :: t, h => by
    rw [List.mapM_cons, h x (by simp), mapM_all f g t (fun y hy => h y (by simp [hy]))]
    rfl

theorem wf_byte (n : Nat) : (Lit.int .u8 ((n % 256 : Nat) : Int)).wf = true := by
  simp [Lit.wf, IntKind.min, IntKind.max, IntKind.signed, IntKind.bits]; omega

theorem wf_dg (a i : Nat) : (Lit.int .u8 ((dg 256 a i : Nat) : Int)).wf = true := wf_byte _

theorem cells32 : Tryd.prog.cellsOf 23 = 32 := by kernel_rfl

theorem trod32 {H : Type} (enc : TypeId × Value → H) (W : World) (base : Nat) (sp : Nat → Bool) (held : Bool) (k a : Nat) :
    DataW.trod enc Tryd.prog W base sp held (k + 2) 23 (yl 32 a) = some (da H a, []) := by
  have h1 : ∀ i ∈ List.range 32, DataW.trod enc Tryd.prog W base sp held (k + 1) 5 (((yl 32 a).drop (i * 1)).take 1) = some (.lit (.int .u8 ((dg 256 a i : Nat) : Int)), []) := by
    intro i hi
    have hi' : i < 32 := by simpa using hi
    have e : ((yl 32 a).drop (i * 1)).take 1 = [.int .u8 ((dg 256 a i : Nat) : Int)] := by
      have hl := yl_length 32 a
      have hg := yl_get 32 a i hi'
      rw [Nat.mul_one]
      rw [List.getElem?_eq_getElem (by omega)] at hg
      rw [List.drop_eq_getElem_cons (by omega), List.take_succ_cons, List.take_zero]
      injection hg with hg
      rw [hg]
    rw [e]
    unfold DataW.trod
    rw [Tryd.underlying5]
    simp only [wf_dg, and_self, ↓reduceIte]
  unfold DataW.trod
  rw [Tryd.underlying23]
  simp only [yl_length, cells32, ↓reduceIte, cells8]
  rw [mapM_all _ _ _ h1]
  simp [da, Function.comp_def]

theorem open32 {H : Type} {enc : TypeId × Value → H} {W : World} {base : Nat} {v : Value} {d : DataW H} {q : List MemPlace}
    (hval : Value.okWide Tryd.prog W .any base 23 v) (h : DataW.Trod enc Tryd.prog W 0 (fun _ => true) true 23 v d q) :
    ∃ a : Nat, a < M ∧ v = yv 32 a ∧ d = da H a ∧ q = [] := by
  obtain ⟨cs, rfl, hsz, _⟩ : ∃ cs, v = .agg cs ∧ cs.size = Tryd.prog.cellsOf 23 ∧ Row.okWide Tryd.prog W .any base 23 cs := by
    simpa [Value.okWide, Tryd.underlying23] using hval
  rw [cells32] at hsz
  obtain ⟨l⟩ := cs
  obtain ⟨fuel, hf⟩ := h
  have hf' : DataW.trod enc Tryd.prog W 0 (fun _ => true) true fuel 23 l = some (d, q) := hf
  obtain ⟨xs, m, rfl, hx, hlen, hxl, hel⟩ := DataW.trod_array Tryd.underlying23 hf'
  rw [cells8] at hel
  have hl : l.length = 32 := by simpa using hsz
  have hcell : ∀ i, i < 32 → ∃ n : Nat, n < 256 ∧ l[i]? = some (.int .u8 (n : Int)) := by
    intro i hi
    have h1 := hel i hi
    rw [Nat.mul_one, List.drop_eq_getElem_cons (by omega), List.take_succ_cons, List.take_zero, List.getElem?_eq_getElem (by omega)] at h1
    obtain ⟨z, e0, _, w0⟩ := DataW.trod_int Tryd.underlying5 h1
    simp at e0
    have hb : 0 ≤ z ∧ z ≤ 255 := by
      simpa [Lit.wf, IntKind.min, IntKind.max, IntKind.signed, IntKind.bits] using w0
    refine ⟨z.toNat, by omega, ?_⟩
    rw [List.getElem?_eq_getElem (by omega), e0]
    congr 2
    omega
  obtain ⟨a, ha, hd⟩ := exists_digits (fun i => if hi : i < 32 then (hcell i hi).choose else 0) (fun i => by
    by_cases hi : i < 32
    · simp only [hi, ↓reduceDIte]; exact (hcell i hi).choose_spec.1
    · simp [hi]) 32
  have e32 : 256 ^ 32 = M := by decide
  rw [e32] at ha
  have el : l = yl 32 a := by
    apply List.ext_getElem?
    intro i
    by_cases hi : i < 32
    · rw [yl_get 32 a i hi, hd i hi]
      simp only [hi, ↓reduceDIte]
      exact (hcell i hi).choose_spec.2
    · rw [List.getElem?_eq_none (by omega), List.getElem?_eq_none (by rw [yl_length]; omega)]
  subst el
  have hm : m ≠ 0 := by
    rintro rfl
    have h1 := hel 0 (by decide)
    rw [List.getElem?_eq_getElem (by omega)] at h1
    simp [DataW.trod] at h1
  obtain ⟨m', rfl⟩ := Nat.exists_eq_succ_of_ne_zero hm
  have := trod32 enc W 0 (fun _ => true) true m' a
  rw [hf'] at this
  injection this with this
  injection this with e1 e2
  exact ⟨a, ha, rfl, e1, e2⟩

theorem shut32 {H : Type} (enc : TypeId × Value → H) (W : World) (sp : Nat → Bool) (a : Nat) : DataW.Trod enc Tryd.prog W 0 sp true 23 (yv 32 a) (da H a) [] := ⟨2, trod32 enc W 0 sp true 0 a⟩
end Go.Proofs.YteijccjdejjbjaaDoor
namespace Go.Proofs.YteijccjdejjbjaaDoor
open Go.ChangeShapes Go.WideShapes Go.ChangeAt Go.RowKit Go.Shelf ScalarNum

/-- what is read of 64 bytes -/
def da64 (H : Type) (a : Nat) : DataW H := .agg ((List.range 64).map fun i => .lit (.int .u8 ((dg 256 a i : Nat) : Int)))

theorem cells64b : Tryd.prog.cellsOf 22 = 64 := by kernel_rfl

theorem trod64 {H : Type} (enc : TypeId × Value → H) (W : World) (base : Nat) (sp : Nat → Bool) (held : Bool) (k a : Nat) :
    DataW.trod enc Tryd.prog W base sp held (k + 2) 22 (yl 64 a) = some (da64 H a, []) := by
  have h1 : ∀ i ∈ List.range 64, DataW.trod enc Tryd.prog W base sp held (k + 1) 5 (((yl 64 a).drop (i * 1)).take 1) = some (.lit (.int .u8 ((dg 256 a i : Nat) : Int)), []) := by
    intro i hi
    have hi' : i < 64 := by simpa using hi
    have e : ((yl 64 a).drop (i * 1)).take 1 = [.int .u8 ((dg 256 a i : Nat) : Int)] := by
      have hl := yl_length 64 a
      have hg := yl_get 64 a i hi'
      rw [Nat.mul_one]
      rw [List.getElem?_eq_getElem (by omega)] at hg
      rw [List.drop_eq_getElem_cons (by omega), List.take_succ_cons, List.take_zero]
      injection hg with hg
      rw [hg]
    rw [e]
    unfold DataW.trod
    rw [Tryd.underlying5]
    simp only [wf_dg, and_self, ↓reduceIte]
  unfold DataW.trod
  rw [Tryd.underlying22]
  simp only [yl_length, cells64b, ↓reduceIte, cells8]
  rw [mapM_all _ _ _ h1]
  simp [da64, Function.comp_def]

theorem open64 {H : Type} {enc : TypeId × Value → H} {W : World} {base : Nat} {v : Value} {d : DataW H} {q : List MemPlace}
    (hval : Value.okWide Tryd.prog W .any base 22 v) (h : DataW.Trod enc Tryd.prog W 0 (fun _ => true) true 22 v d q) :
    ∃ a : Nat, a < M * M ∧ v = yv 64 a ∧ d = da64 H a ∧ q = [] := by
  obtain ⟨cs, rfl, hsz, _⟩ : ∃ cs, v = .agg cs ∧ cs.size = Tryd.prog.cellsOf 22 ∧ Row.okWide Tryd.prog W .any base 22 cs := by
    simpa [Value.okWide, Tryd.underlying22] using hval
  rw [cells64b] at hsz
  obtain ⟨l⟩ := cs
  obtain ⟨fuel, hf⟩ := h
  have hf' : DataW.trod enc Tryd.prog W 0 (fun _ => true) true fuel 22 l = some (d, q) := hf
  obtain ⟨xs, m, rfl, hx, hlen, hxl, hel⟩ := DataW.trod_array Tryd.underlying22 hf'
  rw [cells8] at hel
  have hl : l.length = 64 := by simpa using hsz
  have hcell : ∀ i, i < 64 → ∃ n : Nat, n < 256 ∧ l[i]? = some (.int .u8 (n : Int)) := by
    intro i hi
    have h1 := hel i hi
    rw [Nat.mul_one, List.drop_eq_getElem_cons (by omega), List.take_succ_cons, List.take_zero, List.getElem?_eq_getElem (by omega)] at h1
    obtain ⟨z, e0, _, w0⟩ := DataW.trod_int Tryd.underlying5 h1
    simp at e0
    have hb : 0 ≤ z ∧ z ≤ 255 := by
      simpa [Lit.wf, IntKind.min, IntKind.max, IntKind.signed, IntKind.bits] using w0
    refine ⟨z.toNat, by omega, ?_⟩
    rw [List.getElem?_eq_getElem (by omega), e0]
    congr 2
    omega
  obtain ⟨a, ha, hd⟩ := exists_digits (fun i => if hi : i < 64 then (hcell i hi).choose else 0) (fun i => by
    by_cases hi : i < 64
    · simp only [hi, ↓reduceDIte]; exact (hcell i hi).choose_spec.1
    · simp [hi]) 64
  have e64 : 256 ^ 64 = M * M := by decide
  rw [e64] at ha
  have el : l = yl 64 a := by
    apply List.ext_getElem?
    intro i
    by_cases hi : i < 64
    · rw [yl_get 64 a i hi, hd i hi]
      simp only [hi, ↓reduceDIte]
      exact (hcell i hi).choose_spec.2
    · rw [List.getElem?_eq_none (by omega), List.getElem?_eq_none (by rw [yl_length]; omega)]
  subst el
  have hm : m ≠ 0 := by
    rintro rfl
    have h1 := hel 0 (by decide)
    rw [List.getElem?_eq_getElem (by omega)] at h1
    simp [DataW.trod] at h1
  obtain ⟨m', rfl⟩ := Nat.exists_eq_succ_of_ne_zero hm
  have := trod64 enc W 0 (fun _ => true) true m' a
  rw [hf'] at this
  injection this with this
  injection this with e1 e2
  exact ⟨a, ha, rfl, e1, e2⟩

theorem shut64 {H : Type} (enc : TypeId × Value → H) (W : World) (sp : Nat → Bool) (a : Nat) : DataW.Trod enc Tryd.prog W 0 sp true 22 (yv 64 a) (da64 H a) [] := ⟨2, trod64 enc W 0 sp true 0 a⟩
end Go.Proofs.YteijccjdejjbjaaDoor
namespace Go.Proofs.YteijccjdejjbjaaDoor
open Go.ChangeShapes Go.WideShapes Go.ChangeAt Go.WideMaps Go.WideElems Go.RowKit Go.Shelf ScalarNum

set_option maxRecDepth 100000 in
theorem open32l {H : Type} {enc : TypeId × Value → H} {W : World} {fuel : Nat} {l : List Value} {z : DataW H × List MemPlace}
    (hf' : DataW.trod enc Tryd.prog W 0 (fun _ => true) true fuel 23 l = some z) : ∃ a : Nat, a < M ∧ l = yl 32 a := by
  obtain ⟨xs, m, rfl, hx, hlen, hxl, hel⟩ := DataW.trod_array Tryd.underlying23 hf'
  rw [cells8] at hel
  have hl : l.length = 32 := hlen.trans cells32
  have hcell : ∀ i, i < 32 → ∃ n : Nat, n < 256 ∧ l[i]? = some (.int .u8 (n : Int)) := by
    intro i hi
    have h1 := hel i hi
    rw [Nat.mul_one, List.drop_eq_getElem_cons (by omega), List.take_succ_cons, List.take_zero, List.getElem?_eq_getElem (by omega)] at h1
    obtain ⟨z, e0, _, w0⟩ := DataW.trod_int Tryd.underlying5 h1
    simp at e0
    have hb : 0 ≤ z ∧ z ≤ 255 := by
      simpa [Lit.wf, IntKind.min, IntKind.max, IntKind.signed, IntKind.bits] using w0
    refine ⟨z.toNat, by omega, ?_⟩
    rw [List.getElem?_eq_getElem (by omega), e0]
    congr 2
    omega
  obtain ⟨a, ha, hd⟩ := exists_digits (fun i => if hi : i < 32 then (hcell i hi).choose else 0) (fun i => by
    by_cases hi : i < 32
    · simp only [hi, ↓reduceDIte]; exact (hcell i hi).choose_spec.1
    · simp [hi]) 32
  have e32 : 256 ^ 32 = M := by decide
  rw [e32] at ha
  refine ⟨a, ha, ?_⟩
  apply List.ext_getElem?
  intro i
  by_cases hi : i < 32
  · rw [yl_get 32 a i hi, hd i hi]
    simp only [hi, ↓reduceDIte]
    exact (hcell i hi).choose_spec.2
  · rw [List.getElem?_eq_none (by omega), List.getElem?_eq_none (by rw [yl_length]; omega)]

set_option maxRecDepth 100000 in
theorem open64l {H : Type} {enc : TypeId × Value → H} {W : World} {fuel : Nat} {l : List Value} {z : DataW H × List MemPlace}
    (hf' : DataW.trod enc Tryd.prog W 0 (fun _ => true) true fuel 22 l = some z) : ∃ a : Nat, a < M * M ∧ l = yl 64 a := by
  obtain ⟨xs, m, rfl, hx, hlen, hxl, hel⟩ := DataW.trod_array Tryd.underlying22 hf'
  rw [cells8] at hel
  have hl : l.length = 64 := hlen.trans cells64b
  have hcell : ∀ i, i < 64 → ∃ n : Nat, n < 256 ∧ l[i]? = some (.int .u8 (n : Int)) := by
    intro i hi
    have h1 := hel i hi
    rw [Nat.mul_one, List.drop_eq_getElem_cons (by omega), List.take_succ_cons, List.take_zero, List.getElem?_eq_getElem (by omega)] at h1
    obtain ⟨z, e0, _, w0⟩ := DataW.trod_int Tryd.underlying5 h1
    simp at e0
    have hb : 0 ≤ z ∧ z ≤ 255 := by
      simpa [Lit.wf, IntKind.min, IntKind.max, IntKind.signed, IntKind.bits] using w0
    refine ⟨z.toNat, by omega, ?_⟩
    rw [List.getElem?_eq_getElem (by omega), e0]
    congr 2
    omega
  obtain ⟨a, ha, hd⟩ := exists_digits (fun i => if hi : i < 64 then (hcell i hi).choose else 0) (fun i => by
    by_cases hi : i < 64
    · simp only [hi, ↓reduceDIte]; exact (hcell i hi).choose_spec.1
    · simp [hi]) 64
  have e32 : 256 ^ 64 = M * M := by decide
  rw [e32] at ha
  refine ⟨a, ha, ?_⟩
  apply List.ext_getElem?
  intro i
  by_cases hi : i < 64
  · rw [yl_get 64 a i hi, hd i hi]
    simp only [hi, ↓reduceDIte]
    exact (hcell i hi).choose_spec.2
  · rw [List.getElem?_eq_none (by omega), List.getElem?_eq_none (by rw [yl_length]; omega)]

set_option maxRecDepth 100000 in
theorem cellsOp : Tryd.prog.cellsOf 51 = 163 := by kernel_rfl
set_option maxRecDepth 100000 in
theorem cellsSli : Tryd.prog.cellsOf 30 = 1 := by kernel_rfl
set_option maxRecDepth 100000 in
theorem cellsIn : Tryd.prog.cellsOf 3 = 1 := by kernel_rfl
theorem digs_open {H : Type} {enc : TypeId × Value → H} {W : World} {fuel : Nat} {cs : List Value} {z : DataW H × List MemPlace}
    (hf : DataW.trod enc Tryd.prog W 0 (fun _ => true) true fuel 30 cs = some z) : ∃ v l, cs = [v] ∧ Sl8 W v l ∧ l.length ≤ Rows.uptoBulk z.1 := by
  obtain ⟨d, ps⟩ := z
  rcases open_ints Tryd.underlying30 Tryd.underlying40 cells8i hf with ⟨e1, _⟩ | ⟨ad, l2, c2, zs, e1, _⟩
  · subst e1
    obtain ⟨l, h1, h2⟩ := open_digits (v := .slice none 0 0) (d := d) (ps := ps) ⟨fuel, hf⟩ none 0 0 rfl
    exact ⟨_, l, rfl, h1, h2⟩
  · subst e1
    obtain ⟨l, h1, h2⟩ := open_digits (v := .slice (some ad) l2 c2) (d := d) (ps := ps) ⟨fuel, hf⟩ (some ad) l2 c2 rfl
    exact ⟨_, l, rfl, h1, h2⟩
theorem bulk_mem {H : Type} {l : List (DataW H)} {x : DataW H} (h : x ∈ l) : Rows.uptoBulk x ≤ Rows.uptoBulkAll l := by
  induction l with
  | nil => cases h
  | cons y r ih =>
    simp only [Rows.uptoBulkAll]
    rcases List.mem_cons.1 h with rfl | h
    · omega
    · have := ih h; omega
theorem list163 {cs : List Value} {k n : Int} {a b c u : Nat} {d : Value} (hl : cs.length = 163) (h0 : (cs.drop 0).take 1 = [.int .i64 k]) (h1 : (cs.drop 1).take 32 = yl 32 a) (h2 : (cs.drop 33).take 32 = yl 32 b) (h3 : (cs.drop 65).take 32 = yl 32 c)
    (h4 : (cs.drop 97).take 64 = yl 64 u) (h5 : (cs.drop 161).take 1 = [.int .i64 n]) (h6 : (cs.drop 162).take 1 = [d]) : cs = opc k a b c u n d := by
  have e6 : cs.drop 162 = [d] := by rw [← h6, List.take_of_length_le (by simp [hl])]
  have e5 : cs.drop 161 = [.int .i64 n, d] := by rw [← List.take_append_drop 1 (cs.drop 161), h5, List.drop_drop, e6]; rfl
  have e4 : cs.drop 97 = yl 64 u ++ [.int .i64 n, d] := by rw [← List.take_append_drop 64 (cs.drop 97), h4, List.drop_drop, e5]
  have e3 : cs.drop 65 = yl 32 c ++ (yl 64 u ++ [.int .i64 n, d]) := by rw [← List.take_append_drop 32 (cs.drop 65), h3, List.drop_drop, e4]
  have e2 : cs.drop 33 = yl 32 b ++ (yl 32 c ++ (yl 64 u ++ [.int .i64 n, d])) := by rw [← List.take_append_drop 32 (cs.drop 33), h2, List.drop_drop, e3]
  have e1 : cs.drop 1 = yl 32 a ++ (yl 32 b ++ (yl 32 c ++ (yl 64 u ++ [.int .i64 n, d]))) := by rw [← List.take_append_drop 32 (cs.drop 1), h1, List.drop_drop, e2]
  rw [← List.take_append_drop 1 cs, e1]
  rw [List.drop_zero] at h0
  rw [h0]
  rfl
/-- one call is opened -/
theorem op_open {H : Type} {enc : TypeId × Value → H} {W : World} {fuel : Nat} {cs : List Value} {z : DataW H × List MemPlace}
    (hf : DataW.trod enc Tryd.prog W 0 (fun _ => true) true fuel 51 cs = some z) : ∃ (k : Int) (a b c u : Nat) (n : Int) (d : Value) (l : List I8), a < M ∧ b < M ∧ c < M ∧ u < M * M ∧ Sl8 W d l ∧ cs = opc k a b c u n d ∧ l.length ≤ Rows.uptoBulk z.1 ∧ (Lit.int .i64 n).wf = true := by
  obtain ⟨ys, m, _, hz, hl, hn, hel⟩ := DataW.trod_struct Tryd.underlying51 hf
  rw [cellsOp] at hl
  have hn7 : ys.length = 7 := hn
  have e0 : DataW.trod enc Tryd.prog W 0 (fun _ => true) true m 3 ((cs.drop 0).take (Tryd.prog.cellsOf 3)) = ys[0]? := hel 0 _ rfl
  have e1 : DataW.trod enc Tryd.prog W 0 (fun _ => true) true m 23 ((cs.drop 1).take (Tryd.prog.cellsOf 23)) = ys[1]? := hel 1 _ rfl
  have e2 : DataW.trod enc Tryd.prog W 0 (fun _ => true) true m 23 ((cs.drop 33).take (Tryd.prog.cellsOf 23)) = ys[2]? := hel 2 _ rfl
  have e3 : DataW.trod enc Tryd.prog W 0 (fun _ => true) true m 23 ((cs.drop 65).take (Tryd.prog.cellsOf 23)) = ys[3]? := hel 3 _ rfl
  have e4 : DataW.trod enc Tryd.prog W 0 (fun _ => true) true m 22 ((cs.drop 97).take (Tryd.prog.cellsOf 22)) = ys[4]? := hel 4 _ rfl
  have e5 : DataW.trod enc Tryd.prog W 0 (fun _ => true) true m 3 ((cs.drop 161).take (Tryd.prog.cellsOf 3)) = ys[5]? := hel 5 _ rfl
  have e6 : DataW.trod enc Tryd.prog W 0 (fun _ => true) true m 30 ((cs.drop 162).take (Tryd.prog.cellsOf 30)) = ys[6]? := hel 6 _ rfl
  rw [cellsIn, List.getElem?_eq_getElem (by omega)] at e0 e5
  rw [cells32, List.getElem?_eq_getElem (by omega)] at e1 e2 e3
  rw [cells64b, List.getElem?_eq_getElem (by omega)] at e4
  rw [cellsSli, List.getElem?_eq_getElem (by omega)] at e6
  obtain ⟨k, hk, _⟩ := DataW.trod_int Tryd.underlying3 e0
  obtain ⟨n, hn5, _, hnw⟩ := DataW.trod_int Tryd.underlying3 e5
  obtain ⟨a, ha, hal⟩ := open32l e1
  obtain ⟨b, hb, hbl⟩ := open32l e2
  obtain ⟨c, hc, hcl⟩ := open32l e3
  obtain ⟨u, hu, hul⟩ := open64l e4
  obtain ⟨d, l, hd, hS, hln⟩ := digs_open e6
  refine ⟨k, a, b, c, u, n, d, l, ha, hb, hc, hu, hS, list163 hl hk hal hbl hcl hul hn5 hd, ?_, hnw⟩
  subst hz
  refine Nat.le_trans hln ?_
  simp only [Rows.uptoBulk]
  have := bulk_mem (l := ys.map (·.1)) (x := ys[6].1) (List.mem_map.2 ⟨ys[6], List.getElem_mem _, rfl⟩)
  omega
theorem okWide_slice_le {P : Program} {W : World} {r : Reach} {base : Nat} {t e : TypeId} {v : Value} (ht : P.underlying t = some (.slice e)) (h : Value.okWide P W r base t v) : ∃ a len cap, v = .slice a len cap ∧ (len : Int) ≤ 9223372036854775807 := by
  obtain ⟨a, len, cap, rfl⟩ := okWide_slice ht h
  refine ⟨a, len, cap, rfl, ?_⟩
  simp only [Value.okWide, ht, Cell.okWide] at h
  cases a with
  | none =>
    cases len with
    | zero => decide
    | succ n => simp [Cell.ok, ht] at h
  | some ad =>
    simp only [Cell.ok, ht] at h
    have h1 := h.1
    have h2 : (cap : Int) ≤ 9223372036854775807 := h.2.1
    omega
/-- a script is opened */ -/
theorem ops_open {H : Type} {enc : TypeId × Value → H} {W : World} {d : DataW H} {ps : List MemPlace} {a : Option Addr} {len cap : Nat}
    (h : DataW.Trod enc Tryd.prog W 0 (fun _ => true) true 48 (.slice a len cap) d ps) (h0 : 0 < len) :
    ∃ b off, a = some ⟨b, off, none⟩ ∧ ∀ i, i < len → Op1 W b (off + 163 * i) := by
  obtain ⟨fuel, hf⟩ := h
  have hf' : DataW.trod enc Tryd.prog W 0 (fun _ => true) true fuel 48 [.slice a len cap] = some (d, ps) := hf
  rcases DataW.trod_slice Tryd.underlying48 hf' with ⟨e1, _⟩ | ⟨ad, l2, c2, elems, rest, n, _, e1, _, _, _, _, hel0, hel, _, _⟩
  · simp at e1; omega
  · simp only [List.cons.injEq, Value.slice.injEq, and_true] at e1
    obtain ⟨rfl, rfl, rfl⟩ := e1
    rw [cellsOp] at hel
    have key : ∀ i, i < len → ∃ (k : Int) (a b c u : Nat) (n : Int) (d : Value) (l : List I8), a < M ∧ b < M ∧ c < M ∧ u < M * M ∧ Sl8 W d l ∧ W.cells? 0 (ad.add (i * 163)) 163 = some (opc k a b c u n d) := by
      intro i hi
      have h1 := hel i hi
      rw [List.getElem?_eq_getElem (by omega), Option.bind_eq_some_iff] at h1
      obtain ⟨cs, hcs, hy⟩ := h1
      obtain ⟨k, a, b, c, u, n, d, l, ha, hb, hc, hu, hS, rfl, _⟩ := op_open hy
      exact ⟨k, a, b, c, u, n, d, l, ha, hb, hc, hu, hS, hcs⟩
    obtain ⟨b, off, rfl⟩ : ∃ b off, ad = ⟨b, off, none⟩ := by
      obtain ⟨k, a, b, c, u, n, d, l, _, _, _, _, _, hcs⟩ := key 0 h0
      have h00 := (World.cells?_some hcs).2.2 0 (by decide)
      have h01 : W.cell? ((ad.add (0 * 163)).add 0) = some (.int .i64 k) := h00.trans rfl
      obtain ⟨b, off, sp⟩ := ad
      cases sp with
      | none => exact ⟨b, off, rfl⟩
      | some s => exfalso; simp only [World.cell?, Addr.add] at h01; split at h01 <;> simp at h01
    refine ⟨b, off, rfl, fun i hi => ⟨?_⟩⟩
    obtain ⟨k, a, xb, c, u, n, d, l, ha, hb, hc, hu, hS, hcs⟩ := key i hi
    refine ⟨k, a, xb, c, u, n, d, l, ha, hb, hc, hu, hS, fun j v hv => ?_⟩
    have hj : j < 163 := by have := (List.getElem?_eq_some_iff.1 hv).1; rwa [opc_length] at this
    have := (World.cells?_some hcs).2.2 j hj
    rw [hv] at this
    rwa [Addr.add_mid, Addr.add_mid, Nat.mul_comm i 163] at this
end Go.Proofs.YteijccjdejjbjaaDoor
namespace Go.Proofs.YteijccjdejjbjaaDoor
open Go.ChangeShapes Go.WideShapes Go.ChangeAt Go.WideMaps Go.WideElems Go.RowKit Go.Shelf ScalarNum

theorem gTab : Tryd.prog.globalNamed "ledger/scalar.multiples" = some 0 := by kernel_rfl
theorem tTab : (Tryd.prog.globals[0]?).map (·.type) = some 72 := by kernel_rfl
theorem cellsN : Tryd.prog.cellsOf 62 = 4 := by kernel_rfl

theorem num_read {W : World} {sp : Nat → Bool} {m : Nat} {cs : List Value} {a0 a1 a2 a3 : Int} {pl : List MemPlace}
    (h : DataW.trod (fun _ => ()) Tryd.prog W 0 sp false m 62 cs = some (.agg [.lit (.int .u64 a0), .lit (.int .u64 a1), .lit (.int .u64 a2), .lit (.int .u64 a3)], pl)) : cs = [.int .u64 a0, .int .u64 a1, .int .u64 a2, .int .u64 a3] := by
  obtain ⟨xs, m1, rfl, hx1, hlen, hn, hel⟩ := DataW.trod_array Tryd.underlying62 h
  rw [cells64] at hel
  simp only [Prod.mk.injEq] at hx1
  have hD := hx1.1
  simp only [DataW.agg.injEq] at hD
  have hl : cs.length = 4 := hlen.trans (by kernel_rfl)
  match xs, hn, hD, hel with
  | [y0, y1, y2, y3], _, hD, hel =>
    simp only [List.map_cons, List.map_nil, List.cons.injEq, and_true] at hD
    obtain ⟨d0, d1, d2, d3⟩ := hD
    have key : ∀ (i : Nat) (y : DataW Unit × List MemPlace) (z : Int), i < 4 → DataW.trod (fun _ => ()) Tryd.prog W 0 sp false m1 60 ((cs.drop (i * 1)).take 1) = some y → .lit (.int .u64 z) = y.1 → cs[i]? = some (.int .u64 z) := by
      intro i y z hi h e
      rw [Nat.mul_one, List.drop_eq_getElem_cons (by omega), List.take_succ_cons, List.take_zero] at h
      obtain ⟨z0, e0, b0, _⟩ := DataW.trod_int Tryd.underlying60 h
      simp at e0
      rw [b0] at e
      simp at e
      subst e
      rw [List.getElem?_eq_getElem (by omega)]
      simp [e0]
    have r0 := key 0 y0 _ (by decide) (hel 0 (by decide)) d0
    have r1 := key 1 y1 _ (by decide) (hel 1 (by decide)) d1
    have r2 := key 2 y2 _ (by decide) (hel 2 (by decide)) d2
    have r3 := key 3 y3 _ (by decide) (hel 3 (by decide)) d3
    match cs, hl with
    | [c0, c1, c2, c3], _ =>
      simp at r0 r1 r2 r3
      subst r0 r1 r2 r3
      rfl

theorem tab_at {W : World} {cs0 : Array Value} (hc : ∀ i, W.cell? ⟨0, i, none⟩ = cs0[i]?) (q : Nat) {l : List Value} (h : (cs0.toList.drop (q * 4)).take 4 = l) : W.rangeAt 0 (q * 4) l := by
  intro j v hv
  rw [hc, ← Array.getElem?_toList]
  rw [← h, List.getElem?_take] at hv
  split at hv
  · rw [List.getElem?_drop] at hv; exact hv
  · cases hv

theorem row_0 : wl 4 (0 * L % M) = [.int .u64 0, .int .u64 0, .int .u64 0, .int .u64 0] := by kernel_rfl
theorem row_1 : wl 4 (1 * L % M) = [.int .u64 6346243789798364141, .int .u64 1503914060200516822, .int .u64 0, .int .u64 1152921504606846976] := by kernel_rfl
theorem row_2 : wl 4 (2 * L % M) = [.int .u64 12692487579596728282, .int .u64 3007828120401033644, .int .u64 0, .int .u64 2305843009213693952] := by kernel_rfl
theorem row_3 : wl 4 (3 * L % M) = [.int .u64 591987295685540807, .int .u64 4511742180601550467, .int .u64 0, .int .u64 3458764513820540928] := by kernel_rfl
theorem row_4 : wl 4 (4 * L % M) = [.int .u64 6938231085483904948, .int .u64 6015656240802067289, .int .u64 0, .int .u64 4611686018427387904] := by kernel_rfl
theorem row_5 : wl 4 (5 * L % M) = [.int .u64 13284474875282269089, .int .u64 7519570301002584111, .int .u64 0, .int .u64 5764607523034234880] := by kernel_rfl
theorem row_6 : wl 4 (6 * L % M) = [.int .u64 1183974591371081614, .int .u64 9023484361203100934, .int .u64 0, .int .u64 6917529027641081856] := by kernel_rfl
theorem row_7 : wl 4 (7 * L % M) = [.int .u64 7530218381169445755, .int .u64 10527398421403617756, .int .u64 0, .int .u64 8070450532247928832] := by kernel_rfl
theorem row_8 : wl 4 (8 * L % M) = [.int .u64 13876462170967809896, .int .u64 12031312481604134578, .int .u64 0, .int .u64 9223372036854775808] := by kernel_rfl
theorem row_9 : wl 4 (9 * L % M) = [.int .u64 1775961887056622421, .int .u64 13535226541804651401, .int .u64 0, .int .u64 10376293541461622784] := by kernel_rfl
theorem row_10 : wl 4 (10 * L % M) = [.int .u64 8122205676854986562, .int .u64 15039140602005168223, .int .u64 0, .int .u64 11529215046068469760] := by kernel_rfl
theorem row_11 : wl 4 (11 * L % M) = [.int .u64 14468449466653350703, .int .u64 16543054662205685045, .int .u64 0, .int .u64 12682136550675316736] := by kernel_rfl
theorem row_12 : wl 4 (12 * L % M) = [.int .u64 2367949182742163228, .int .u64 18046968722406201868, .int .u64 0, .int .u64 13835058055282163712] := by kernel_rfl
theorem row_13 : wl 4 (13 * L % M) = [.int .u64 8714192972540527369, .int .u64 1104138708897167074, .int .u64 1, .int .u64 14987979559889010688] := by kernel_rfl
theorem row_14 : wl 4 (14 * L % M) = [.int .u64 15060436762338891510, .int .u64 2608052769097683896, .int .u64 1, .int .u64 16140901064495857664] := by kernel_rfl
theorem row_15 : wl 4 (15 * L % M) = [.int .u64 2959936478427704035, .int .u64 4111966829298200719, .int .u64 1, .int .u64 17293822569102704640] := by kernel_rfl
theorem row_16 : wl 4 (16 * L % M) = [.int .u64 9306180268226068176, .int .u64 5615880889498717541, .int .u64 1, .int .u64 0] := by kernel_rfl

theorem tab_of_read {W : World} {cs0 : Array Value} {f0 : Nat} {p0 : List MemPlace} {sp : Nat → Bool} (hc : ∀ i, W.cell? ⟨0, i, none⟩ = cs0[i]?)
    (hd0 : DataW.trod (fun _ => ()) Tryd.prog W 0 sp false f0 72 cs0.toList = some (Rows.laid_ledger_scalar_multiples, p0)) : Tab W := by
  obtain ⟨xs, m1, rfl, hx1, hlen, hn, hel⟩ := DataW.trod_array Tryd.underlying72 hd0
  rw [cellsN] at hel
  simp only [Prod.mk.injEq] at hx1
  have hD := hx1.1
  unfold Rows.laid_ledger_scalar_multiples at hD
  simp only [DataW.agg.injEq] at hD
  match xs, hn, hD, hel with
  | [y0, y1, y2, y3, y4, y5, y6, y7, y8, y9, y10, y11, y12, y13, y14, y15, y16], _, hD, hel =>
    simp only [List.map_cons, List.map_nil, List.cons.injEq, and_true] at hD
    obtain ⟨d0, d1, d2, d3, d4, d5, d6, d7, d8, d9, d10, d11, d12, d13, d14, d15, d16⟩ := hD
    have r0 := tab_at hc 0 (num_read (pl := y0.2) ((hel 0 (by decide)).trans (by rw [d0]; rfl)))
    have r1 := tab_at hc 1 (num_read (pl := y1.2) ((hel 1 (by decide)).trans (by rw [d1]; rfl)))
    have r2 := tab_at hc 2 (num_read (pl := y2.2) ((hel 2 (by decide)).trans (by rw [d2]; rfl)))
    have r3 := tab_at hc 3 (num_read (pl := y3.2) ((hel 3 (by decide)).trans (by rw [d3]; rfl)))
    have r4 := tab_at hc 4 (num_read (pl := y4.2) ((hel 4 (by decide)).trans (by rw [d4]; rfl)))
    have r5 := tab_at hc 5 (num_read (pl := y5.2) ((hel 5 (by decide)).trans (by rw [d5]; rfl)))
    have r6 := tab_at hc 6 (num_read (pl := y6.2) ((hel 6 (by decide)).trans (by rw [d6]; rfl)))
    have r7 := tab_at hc 7 (num_read (pl := y7.2) ((hel 7 (by decide)).trans (by rw [d7]; rfl)))
    have r8 := tab_at hc 8 (num_read (pl := y8.2) ((hel 8 (by decide)).trans (by rw [d8]; rfl)))
    have r9 := tab_at hc 9 (num_read (pl := y9.2) ((hel 9 (by decide)).trans (by rw [d9]; rfl)))
    have r10 := tab_at hc 10 (num_read (pl := y10.2) ((hel 10 (by decide)).trans (by rw [d10]; rfl)))
    have r11 := tab_at hc 11 (num_read (pl := y11.2) ((hel 11 (by decide)).trans (by rw [d11]; rfl)))
    have r12 := tab_at hc 12 (num_read (pl := y12.2) ((hel 12 (by decide)).trans (by rw [d12]; rfl)))
    have r13 := tab_at hc 13 (num_read (pl := y13.2) ((hel 13 (by decide)).trans (by rw [d13]; rfl)))
    have r14 := tab_at hc 14 (num_read (pl := y14.2) ((hel 14 (by decide)).trans (by rw [d14]; rfl)))
    have r15 := tab_at hc 15 (num_read (pl := y15.2) ((hel 15 (by decide)).trans (by rw [d15]; rfl)))
    have r16 := tab_at hc 16 (num_read (pl := y16.2) ((hel 16 (by decide)).trans (by rw [d16]; rfl)))
    intro q hq
    have hcases : q = 0 ∨ q = 1 ∨ q = 2 ∨ q = 3 ∨ q = 4 ∨ q = 5 ∨ q = 6 ∨ q = 7 ∨ q = 8 ∨ q = 9 ∨ q = 10 ∨ q = 11 ∨ q = 12 ∨ q = 13 ∨ q = 14 ∨ q = 15 ∨ q = 16 := by omega
    rcases hcases with rfl | rfl | rfl | rfl | rfl | rfl | rfl | rfl | rfl | rfl | rfl | rfl | rfl | rfl | rfl | rfl | rfl
    · rw [row_0]; exact r0
    · rw [row_1]; exact r1
    · rw [row_2]; exact r2
    · rw [row_3]; exact r3
    · rw [row_4]; exact r4
    · rw [row_5]; exact r5
    · rw [row_6]; exact r6
    · rw [row_7]; exact r7
    · rw [row_8]; exact r8
    · rw [row_9]; exact r9
    · rw [row_10]; exact r10
    · rw [row_11]; exact r11
    · rw [row_12]; exact r12
    · rw [row_13]; exact r13
    · rw [row_14]; exact r14
    · rw [row_15]; exact r15
    · rw [row_16]; exact r16

theorem tab_of_laid {W : World} (h : laidMetH Tryd.prog Rows.scalarRingRow.laid W) : Tab W := by
  rw [MakeChecks.laidMetH_plain _ _ _ (by kernel_rfl)] at h
  obtain ⟨ps, ⟨g0, t0, cs0, f0, p0, q0, hg0, ht0, hv0, hd0, _, _⟩, _, _⟩ := h
  obtain rfl := Option.some.inj (gTab.symm.trans hg0)
  obtain rfl := Option.some.inj (tTab.symm.trans ht0)
  exact tab_of_read (World.var?_cell hg0 hv0) hd0
end Go.Proofs.YteijccjdejjbjaaDoor
namespace Go.Proofs.YteijccjdejjbjaaDoor
open Go.ChangeShapes Go.WideShapes Go.ChangeAt Go.WideMaps Go.WideElems Go.RowKit Go.Shelf ScalarNum

theorem gOrd : Tryd.prog.globalNamed "ledger/ledgerref03.order" = some 1 := by kernel_rfl
theorem tOrd : (Tryd.prog.globals[1]?).map (·.type) = some 23 := by kernel_rfl
theorem ord_datum : (Rows.laid_ledger_ledgerref03_order : DataW Unit) = .agg ((List.range 32).map fun i => .lit (.int .u8 ((dg 256 L i : Nat) : Int))) := by kernel_rfl

theorem ord_of_read {W : World} {cs0 : Array Value} {f0 : Nat} {p0 : List MemPlace} {sp : Nat → Bool} (hc : ∀ i, W.cell? ⟨1, i, none⟩ = cs0[i]?)
    (hd0 : DataW.trod (fun _ => ()) Tryd.prog W 0 sp false f0 23 cs0.toList = some (Rows.laid_ledger_ledgerref03_order, p0)) : W.rangeAt 1 0 (yl 32 L) := by
  rw [ord_datum] at hd0
  obtain ⟨xs, m1, rfl, hx1, hlen, hn, hel⟩ := DataW.trod_array Tryd.underlying23 hd0
  rw [cells8] at hel
  simp only [Prod.mk.injEq] at hx1
  have hD := hx1.1
  simp only [DataW.agg.injEq] at hD
  have hl : cs0.toList.length = 32 := hlen.trans (by kernel_rfl)
  intro j v hv
  have hj : j < 32 := by
    have := (List.getElem?_eq_some_iff.1 hv).1; rwa [yl_length] at this
  rw [yl_get 32 L j hj] at hv
  injection hv with hv
  subst hv
  rw [Nat.zero_add, hc j, ← Array.getElem?_toList]
  have h1 := hel j hj
  have h2 := congrArg (·[j]?) hD
  simp only [List.getElem?_map, List.getElem?_range hj, Option.map_some] at h2
  cases hy : xs[j]? with
  | none => rw [hy] at h2; simp at h2
  | some y =>
    rw [hy] at h1 h2
    simp only [Option.map_some, Option.some.injEq] at h2
    rw [Nat.mul_one, List.drop_eq_getElem_cons (by omega), List.take_succ_cons, List.take_zero] at h1
    obtain ⟨z0, e0, b0, _⟩ := DataW.trod_int Tryd.underlying5 h1
    simp at e0
    rw [b0] at h2
    simp at h2
    rw [List.getElem?_eq_getElem (by omega)]
    simp [e0, h2]

theorem both_of_laid {W : World} (h : laidMetH Tryd.prog Rows.scalarReducesRow.laid W) : Tab W ∧ W.rangeAt 1 0 (yl 32 L) := by
  rw [MakeChecks.laidMetH_plain _ _ _ (by kernel_rfl)] at h
  obtain ⟨ps, ⟨g0, t0, cs0, f0, p0, q0, hg0, ht0, hv0, hd0, ⟨g1, t1, cs1, f1, p1, q1, hg1, ht1, hv1, hd1, _, _⟩, _⟩, _, _⟩ := h
  obtain rfl := Option.some.inj (gOrd.symm.trans hg0)
  obtain rfl := Option.some.inj (tOrd.symm.trans ht0)
  obtain rfl := Option.some.inj (gTab.symm.trans hg1)
  obtain rfl := Option.some.inj (tTab.symm.trans ht1)
  exact ⟨tab_of_read (World.var?_cell hg1 hv1) hd1, ord_of_read (World.var?_cell hg0 hv0) hd0⟩
end Go.Proofs.YteijccjdejjbjaaDoor
namespace Go.Proofs.YteijccjdejjbjaaDoor
open Go.ChangeShapes Go.WideShapes Go.ChangeAt Go.WideMaps Go.WideElems Go.RowKit Go.Shelf ScalarNum

variable {H : Type} {enc : TypeId × Value → H} {P : Program}
/-- as post_of_same, with 'not frozen' asked of what lay ahead of the call alone -/
theorem post_of_old {f : Func} {s : ChangeSpec} {apart fresh handsOn again : Bool} {W W' : World} {args : Array Value} {v : Value} {ds gs : List (DataW H)} {before pa pv : List MemPlace}
    (hW : DataW.Whole enc P f.params.toList s.vars apart W args.toList ds gs before)
    (hres : ∀ (b : Nat) (sp : Nat → Bool) (hd : Bool), DataW.TrodAll enc P W' b sp hd f.resultTypes.toList (v.resultList f.resultTypes.size) (s.fn H (ds ++ gs)).results [])
    (hargs : ∀ sp : Nat → Bool, (∀ p ∈ before, sp p.block = true) → DataW.TrodAll enc P W' 0 sp true f.params.toList args.toList (s.fn H (ds ++ gs)).args pa)
    (hvars : ∀ sp : Nat → Bool, (∀ p ∈ before, sp p.block = true) → DataW.TrodVars enc P W' sp s.vars (s.fn H (ds ++ gs)).vars pv)
    (hps : before = pa ++ pv) (hk : W.keptBut W' (· ∈ before)) (hfz : ∀ a : Addr, a.block < W.heap.size → W'.frozen? a = W.frozen? a)
    (hok : ∀ (j : Nat) (t : TypeId) (r : Value), f.resultTypes[j]? = some t → (v.resultList f.resultTypes.size)[j]? = some r → Value.okWide P W' .any 0 t r) :
    s.post enc P f apart fresh handsOn again W args v W' := by
  have hlt := fun p hp => hW.lt p hp
  have hin : ∀ p ∈ before, (fun b => decide (b < W.heap.size)) p.block = true := fun p hp => by simpa using hlt p hp
  have hW2 := hW
  obtain ⟨_, _, _, _, _, hz, hn⟩ := hW2
  refine ⟨ds, gs, before, [], pa, pv, hW, hres _ _ _, hargs _ hin, hvars _ hin, World.keptBut_mono (fun p hp => ⟨hp, Or.inr (by rw [hps, List.mem_append] at hp; exact hp)⟩) hk, fun _ => ?_⟩
  refine ⟨hok, _, _, ([] ++ pa) ++ pv, ⟨[] ++ pa, pv, trodAll_append (hargs _ (fun _ _ => rfl)) (hres _ _ _), hvars _ (fun _ _ => rfl), rfl, fun b off hp => ?_, fun ha => ?_⟩, fun p hp _ => ?_⟩
  · have hb : MemPlace.cell b off ∈ before := by rw [hps]; simpa using hp
    rw [hfz ⟨b, off, none⟩ (hlt _ hb)]
    exact hz b off hb
  · have := hn ha
    rw [hps] at this
    simpa using this
  · rw [hps]; simpa using hp


theorem lain_same {W w' : World} (h : Lain W w') {p : MemPlace} (hp : p.block < W.heap.size) : W.sameAt w' p := by
  cases p with
  | cell b o => exact World.cell?_of_block (w := W) (h.2.2.2 b hp)
  | map b => exact h.2.2.2 b hp
end Go.Proofs.YteijccjdejjbjaaDoor
