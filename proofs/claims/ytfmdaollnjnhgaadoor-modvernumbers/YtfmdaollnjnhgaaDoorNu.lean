import Derived.Test.YtfmdaollnjnhgaaDoorNt
import Derived.Test.YtfmdaollnjnhgaaDoorMt
namespace Go.Proofs.YtfmdaollnjnhgaaDoor
open Go.RowKit Go.Shelf TextNum ModNum
theorem xs_app (l r : List UInt8) : ((⟨(118 :: l).toArray⟩ : ByteArray) ++ ⟨r.toArray⟩).data.toList = 118 :: (l ++ r) := by
  rw [baApp]
  rfl
set_option maxRecDepth 100000 in
set_option maxHeartbeats 8000000 in
theorem lawNumbers_walk (a0 a1 a2 b0 b1 b2 : Nat) (h0 : a0 < 4294967296) (h1 : a1 < 4294967296) (h2 : a2 < 4294967296) (j0 : b0 < 4294967296) (j1 : b1 < 4294967296) (j2 : b2 < 4294967296) (w : World) (hG : GM w) (hP : GP w) :
    Calls Tryd.prog 3 #[.agg (u3c a0 a1 a2).toArray, .agg (u3c b0 b1 b2).toArray] w fun e w' => e = .returned (.bool true) ∧ Up w w' := by
  have la := tri_len h0 h1 h2
  have lb := tri_len j0 j1 j2
  obtain ⟨f1, f2, f3, f4, f5, f6, f7⟩ := num_facts la lb
  have HT1 := fun w' => fun (k : Up w w') => Hid.of (three_walk a0 a1 a2 h0 h1 h2 w' (gp_up hP k))
  have HT2 := fun w' => fun (k : Up w w') => Hid.of (three_walk b0 b1 b2 j0 j1 j2 w' (gp_up hP k))
  have HSd := fun w' => Hid.of (side_walk a0 a1 a2 b0 b1 b2 w')
  have HV1 := fun w' => fun (k : Up w w') => Hid.of (CheckVersion_walk ⟨(118 :: tri a0 a1 a2).toArray⟩ w' (hG.up k))
  have HV2 := fun w' => fun (k : Up w w') => Hid.of (CheckVersion_walk (⟨(118 :: tri a0 a1 a2).toArray⟩ ++ ⟨INC.toArray⟩) w' (hG.up k))
  have HC1 := fun w' => fun (k : Up w w') => Hid.of (Compare_walk ⟨(118 :: tri a0 a1 a2).toArray⟩ ⟨(118 :: tri b0 b1 b2).toArray⟩ w' (hG.up k))
  have HC2 := fun w' => fun (k : Up w w') => Hid.of (Compare_walk (⟨(118 :: tri a0 a1 a2).toArray⟩ ++ ⟨W0.toArray⟩) ⟨(118 :: tri a0 a1 a2).toArray⟩ w' (hG.up k))
  have HC3 := fun w' => fun (k : Up w w') => Hid.of (Compare_walk (⟨(118 :: tri a0 a1 a2).toArray⟩ ++ ⟨W9.toArray⟩) (⟨(118 :: tri a0 a1 a2).toArray⟩ ++ ⟨W10.toArray⟩) w' (hG.up k))
  have HC4 := fun w' => fun (k : Up w w') => Hid.of (Compare_walk (⟨(118 :: tri a0 a1 a2).toArray⟩ ++ ⟨WR.toArray⟩) ⟨(118 :: tri b0 b1 b2).toArray⟩ w' (hG.up k))
  have HC5 := fun w' => fun (k : Up w w') => Hid.of (Compare_walk (⟨(118 :: tri a0 a1 a2).toArray⟩ ++ ⟨INC.toArray⟩) ⟨(118 :: tri a0 a1 a2).toArray⟩ w' (hG.up k))
  have HC6 := fun w' => fun (k : Up w w') => Hid.of (Compare_walk (⟨(118 :: tri a0 a1 a2).toArray⟩ ++ ⟨INC.toArray⟩) ⟨(118 :: tri b0 b1 b2).toArray⟩ w' (hG.up k))
  have q1 : verE (118 :: tri a0 a1 a2) = 0 := by unfold verE; rw [f1]; rfl
  have q2 : verE (118 :: (tri a0 a1 a2 ++ INC)) = if a0 < 2 then 111 else 0 := by
    unfold verE
    rw [f6]
    by_cases h : a0 < 2
    · simp [h]
    · simp [h]
  rw [xs_app] at HV2 HC2 HC4 HC5 HC6
  rw [xs_app, xs_app] at HC3
  rw [show (⟨(118 :: tri a0 a1 a2).toArray⟩ : ByteArray).data.toList = 118 :: tri a0 a1 a2 from rfl] at HV1 HC1 HC2 HC5
  rw [show (⟨(118 :: tri b0 b1 b2).toArray⟩ : ByteArray).data.toList = 118 :: tri b0 b1 b2 from rfl] at HC1 HC4 HC6
  rw [q1] at HV1
  rw [q2] at HV2
  rw [f2] at HC1
  rw [f3] at HC2
  rw [f4] at HC3
  rw [f5] at HC4
  have HF7 := Hid.of f7
  have hx : (⟨(118 :: tri a0 a1 a2).toArray⟩ : ByteArray).size ≤ 63 := by rw [size_str]; simp only [List.length_cons]; omega
  have hd := sdN_val a0 a1 a2 b0 b1 b2
  clear f1 f2 f3 f4 f5 f6 f7 q1 q2 la lb hG hP h1 h2 j0 j1 j2
  obtain ⟨c5, hc5⟩ : ∃ c5, cmpV (118 :: (tri a0 a1 a2 ++ INC)) (118 :: tri a0 a1 a2) = c5 := ⟨_, rfl⟩
  obtain ⟨c6, hc6⟩ : ∃ c6, cmpV (118 :: (tri a0 a1 a2 ++ INC)) (118 :: tri b0 b1 b2) = c6 := ⟨_, rfl⟩
  rw [hc5] at HC5 HF7
  rw [hc6] at HC6 HF7
  clear hc5 hc6
  rw [show (⟨W0.toArray⟩ : ByteArray) = ⟨#[45, 48]⟩ from rfl] at HC2
  rw [show (⟨W9.toArray⟩ : ByteArray) = ⟨#[45, 97, 46, 57]⟩ from rfl, show (⟨W10.toArray⟩ : ByteArray) = ⟨#[45, 97, 46, 49, 48]⟩ from rfl] at HC3
  rw [show (⟨WR.toArray⟩ : ByteArray) = ⟨#[45, 114, 99, 46, 49]⟩ from rfl] at HC4
  rw [show (⟨INC.toArray⟩ : ByteArray) = ⟨#[43, 105, 110, 99, 111, 109, 112, 97, 116, 105, 98, 108, 101]⟩ from rfl] at HV2 HC5 HC6
  generalize (⟨(118 :: tri a0 a1 a2).toArray⟩ : ByteArray) = x at *
  generalize (⟨(118 :: tri b0 b1 b2).toArray⟩ : ByteArray) = y at *
  generalize sdN a0 a1 a2 b0 b1 b2 = d at *
  have HA0 := Hid.of ((at_new w 23 (u3c a0 a1 a2)).up ((Up.refl _).alloc (.cells (u3c b0 b1 b2).toArray 23)))
  have HB0 := Hid.of (at_new (w.alloc (.cells (u3c a0 a1 a2).toArray 23)) 23 (u3c b0 b1 b2))
  have HU0 := Hid.of (((Up.refl w).alloc (.cells (u3c a0 a1 a2).toArray 23)).alloc (.cells (u3c b0 b1 b2).toArray 23))
  rw [alloc_size] at HB0
  have k1 : ¬ 9223372036854775807 < x.size + 2 := by omega
  have k2 : ¬ 9223372036854775807 < x.size + 4 := by omega
  have k3 : ¬ 9223372036854775807 < x.size + 5 := by omega
  have k4 : ¬ 9223372036854775807 < x.size + 13 := by omega
  clear hx
  go_enter Tryd.func3, Tryd.ntmps3
  go_wp2_with (with_reducible show wpList _ _ _ ({ dst := _, op := Op.load 23 _, type := _, pos := _, after := _, guard := _ } :: _) _ _; refine Shut.out ?_)
  show wpList _ _ _ _ _ _
  generalize (w.alloc (.cells (u3c a0 a1 a2).toArray 23)).alloc (.cells (u3c b0 b1 b2).toArray 23) = W0 at *
  refine wpList_load_mid rfl _ _ rfl w.heap.size 0 rfl (u3c a0 a1 a2) _ HA0.out.range Tryd.underlying23 rfl (by kernel_rfl) ?_
  simp only [Act.put, List.setIfInBounds_toArray, List.set_cons_zero, List.set_cons_succ]
  go_wp2_with fail
  refine ((HT1 _ HU0.out).out).mono ?_
  rintro e w1 ⟨rfl, u1⟩
  have H1 := Hid.of (HU0.out.trans u1)
  have Hu1 := Hid.of u1
  clear u1
  dsimp only
  have HA1 := Hid.of (HA0.out.up Hu1.out)
  have HB1 := Hid.of (HB0.out.up Hu1.out)
  go_wp2_with (with_reducible show wpList _ _ _ ({ dst := _, op := Op.load 23 _, type := _, pos := _, after := _, guard := _ } :: _) _ _; refine Shut.out ?_)
  show wpList _ _ _ _ _ _
  refine wpList_load_mid rfl _ _ rfl (w.heap.size + 1) 0 rfl (u3c b0 b1 b2) _ HB1.out.range Tryd.underlying23 rfl (by kernel_rfl) ?_
  simp only [Act.put, List.setIfInBounds_toArray, List.set_cons_zero, List.set_cons_succ]
  go_wp2_with fail
  refine ((HT2 _ H1.out).out).mono ?_
  rintro e w2 ⟨rfl, u2⟩
  have H2 := Hid.of (H1.out.trans u2)
  have Hu2 := Hid.of u2
  clear u2
  dsimp only
  have HA2 := Hid.of (HA1.out.up Hu2.out)
  have HB2 := Hid.of (HB1.out.up Hu2.out)
  go_wp2_with (with_reducible show wpList _ _ _ ({ dst := _, op := Op.load 23 _, type := _, pos := _, after := _, guard := _ } :: _) _ _; refine Shut.out ?_)
  show wpList _ _ _ _ _ _
  refine wpList_load_mid rfl _ _ rfl w.heap.size 0 rfl (u3c a0 a1 a2) _ HA2.out.range Tryd.underlying23 rfl (by kernel_rfl) ?_
  simp only [Act.put, List.setIfInBounds_toArray, List.set_cons_zero, List.set_cons_succ]
  go_wp2_with (with_reducible show wpList _ _ _ ({ dst := _, op := Op.load 23 _, type := _, pos := _, after := _, guard := _ } :: _) _ _; refine Shut.out ?_)
  show wpList _ _ _ _ _ _
  refine wpList_load_mid rfl _ _ rfl (w.heap.size + 1) 0 rfl (u3c b0 b1 b2) _ HB2.out.range Tryd.underlying23 rfl (by kernel_rfl) ?_
  simp only [Act.put, List.setIfInBounds_toArray, List.set_cons_zero, List.set_cons_succ]
  go_wp2_with fail
  refine ((HSd _).out).mono ?_
  rintro e w3 ⟨rfl, u3⟩
  have H3 := Hid.of (H2.out.trans u3)
  have Hu3 := Hid.of u3
  clear u3
  dsimp only
  go_wp2_with fail
  refine ((HV1 _ H3.out).out).mono ?_
  rintro e w4 ⟨rfl, u4⟩
  have H4 := Hid.of (H3.out.trans u4)
  have Hu4 := Hid.of u4
  clear u4
  dsimp only
  go_wp2_with fail
  refine ((HC1 _ H4.out).out).mono ?_
  rintro e w5 ⟨rfl, u5⟩
  have H5 := Hid.of (H4.out.trans u5)
  have Hu5 := Hid.of u5
  clear u5
  dsimp only
  go_wp2_with fail
  refine ((HC2 _ H5.out).out).mono ?_
  rintro e w6 ⟨rfl, u6⟩
  have H6 := Hid.of (H5.out.trans u6)
  have Hu6 := Hid.of u6
  clear u6
  dsimp only
  go_wp2_with fail
  refine ((HC3 _ H6.out).out).mono ?_
  rintro e w7 ⟨rfl, u7⟩
  have H7 := Hid.of (H6.out.trans u7)
  have Hu7 := Hid.of u7
  clear u7
  dsimp only
  obtain ⟨p, hp⟩ : ∃ p, (if d = 0 then -1 else d) = p := ⟨_, rfl⟩
  rw [hp] at HC4
  go_wp2_with fail
  refine ((HC4 _ H7.out).out).mono ?_
  rintro e w8 ⟨rfl, u8⟩
  have H8 := Hid.of (H7.out.trans u8)
  have Hu8 := Hid.of u8
  clear u8
  dsimp only
  have HA8 := Hid.of (HA2.out.up ((((((Hu3.out.trans Hu4.out).trans Hu5.out).trans Hu6.out).trans Hu7.out)).trans Hu8.out))
  have hca := HA8.out.cell (i := 0) rfl
  clear HT1 HT2 HSd HV1 HC1 HC2 HC3 HC4 HA0 HA1 HA2 HB0 HB1 HB2 Hu1 Hu2 Hu3 Hu4 Hu5 Hu6 Hu7 Hu8 H1 H2 H3 H4 H5 H6 H7 HU0 HA8
  have hdp : (d = -1 ∧ p = -1) ∨ (d = 0 ∧ p = -1) ∨ (d = 1 ∧ p = 1) := by
    rw [← hp]
    rcases hd with rfl | rfl | rfl
    · exact .inl ⟨rfl, rfl⟩
    · exact .inr (.inl ⟨rfl, rfl⟩)
    · exact .inr (.inr ⟨rfl, rfl⟩)
  clear hd hp
  by_cases h : a0 < 2
  · have hz : (a0 : Int) < 2 := by omega
    rw [if_pos h] at HV2
    clear HC5 HC6 HF7 h h0
    rcases hdp with ⟨rfl, rfl⟩ | ⟨rfl, rfl⟩ | ⟨rfl, rfl⟩
    all_goals go_wp2_with fail
    all_goals refine (HV2 _ H8.out).out.mono ?_
    all_goals rintro e w9 ⟨rfl, u9⟩
    all_goals have H9 := Hid.of (H8.out.trans u9)
    all_goals clear u9
    all_goals dsimp only
    all_goals go_wp2
    all_goals go_ret
    all_goals exact ⟨rfl, H9.out⟩
  · have hz : ¬ (a0 : Int) < 2 := by omega
    rw [if_neg h] at HV2
    obtain ⟨rfl, rfl⟩ := HF7.out h
    clear HF7 h h0
    rcases hdp with ⟨rfl, rfl⟩ | ⟨rfl, rfl⟩ | ⟨rfl, rfl⟩
    all_goals go_wp2_with fail
    all_goals refine (HV2 _ H8.out).out.mono ?_
    all_goals rintro e w9 ⟨rfl, u9⟩
    all_goals have H9 := Hid.of (H8.out.trans u9)
    all_goals clear u9
    all_goals dsimp only
    all_goals go_wp2_with fail
    all_goals refine (HC5 _ H9.out).out.mono ?_
    all_goals rintro e w10 ⟨rfl, u10⟩
    all_goals have H10 := Hid.of (H9.out.trans u10)
    all_goals clear u10
    all_goals dsimp only
    all_goals go_wp2_with fail
    all_goals refine (HC6 _ H10.out).out.mono ?_
    all_goals rintro e w11 ⟨rfl, u11⟩
    all_goals have H11 := Hid.of (H10.out.trans u11)
    all_goals clear u11
    all_goals dsimp only
    all_goals go_wp2
    all_goals go_ret
    all_goals exact ⟨rfl, H11.out⟩
end Go.Proofs.YtfmdaollnjnhgaaDoor
