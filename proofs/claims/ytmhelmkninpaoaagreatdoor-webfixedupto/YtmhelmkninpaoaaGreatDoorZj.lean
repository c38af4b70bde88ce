import Derived.Test.YtmhelmkninpaoaaGreatDoorZi
namespace Go.Proofs.YtmhelmkninpaoaaGreatDoor
open Go.RowKit Go.Shelf TextNum
theorem pdd_zero (b : List UInt8) : pdd b 0 = b := by simp [pdd]
set_option maxRecDepth 100000 in
set_option maxHeartbeats 8000000 in
theorem fixed_walk (ad : Nat → Addr) {a a2 : Option Addr} {n c n2 c2 : Nat} {ds ts : List UInt8} (hn : n ≤ 1048576) (hn2 : n2 ≤ 1048576) (w : World) (hS : Sb w (.slice a n c) ds) (hT : Sb w (.slice a2 n2 c2) ts) (hW : GW w ad) : Calls Tryz.prog 3 #[.slice a n c, .slice a2 n2 c2] w fun e w' => e = .returned (.bool true) ∧ Up w w' := by
  obtain ⟨hln, hnc, hcm⟩ := hS.len
  obtain ⟨hln2, hnc2, hcm2⟩ := hT.len
  have HN := Hid.of hln
  have HN2 := Hid.of hln2
  have hfQ := fixQ ds ts
  have hfS := fixS ds ts
  have hmQ := datQ_sml (l := ds)
  have hmS := datS_sml (l := ds)
  have HPQ1 := Hid.of (fun (w2 : World) (hu : Up w w2) => ParseRequest_dat ad (by omega) w2 (hS.up hu) (hW.up hu))
  have HPQ2 := Hid.of (fun (w2 : World) (av : Option Addr) (nv cv : Nat) (hv : nv ≤ 2097152) (hs : Sb w2 (.slice av nv cv) (ds ++ ts)) (hu : Up w w2) => ParseRequest_dat ad (by omega) w2 hs (hW.up hu))
  have HPS1 := Hid.of (fun (w2 : World) (hu : Up w w2) => ParseResponse_dat ad (by omega) w2 (hS.up hu) (hW.up hu))
  have HPS2 := Hid.of (fun (w2 : World) (av : Option Addr) (nv cv : Nat) (hv : nv ≤ 2097152) (hs : Sb w2 (.slice av nv cv) (ds ++ ts)) (hu : Up w w2) => ParseResponse_dat ad (by omega) w2 hs (hW.up hu))
  generalize datQ (rqP ds) = d1 at *
  generalize datQ (rqP (ds ++ ts)) = d2 at *
  generalize datS (rsP ds) = s1 at *
  generalize datS (rsP (ds ++ ts)) = s2 at *
  have HKn := Hid.of (known_walk ad w hW)
  have HPd := Hid.of (fun (w2 : World) (hu : Up w w2) => padded_walk (.slice a n c) ds 0 (by omega) w2 (hS.up hu))
  rw [pdd_zero] at HPd
  have HT := Hid.of hT
  clear hS hT hW hln hln2
  unfold maxLen at hcm hcm2
  go_enter Tryz.func3, Tryz.ntmps3
  go_wp2_with fail
  refine HKn.out.mono ?_
  rintro e w1 ⟨rfl, u1⟩
  have HU1 := Hid.of u1
  clear u1 HKn
  dsimp only
  go_wp2_with fail
  refine (HPd.out w1 HU1.out).mono ?_
  rintro e w2 ⟨vP, rfl, hOp, u2⟩
  have HU2 := Hid.of (HU1.out.trans u2)
  have HOp := Hid.of hOp
  have Hs2 := Hid.of u2.size
  clear u2 hOp HPd
  obtain ⟨aY, cY, rfl⟩ : ∃ aY cY, vP = .slice aY n cY := by
    obtain ⟨aY, cY, e⟩ := row_len HOp.out
    exact ⟨aY, cY, by rw [e, ← HN.out]⟩
  dsimp only
  go_wp2_with (with_reducible show wpList _ _ _ ({ dst := _, op := Op.call { callee := Callee.builtin Builtin.append, args := _, argTypes := _ }, type := _, pos := _, after := _, guard := _ } :: _) _ _; refine Shut.out ?_)
  show wpList _ _ _ _ _ _
  refine wpList_appSb (N := w1.heap.size) rfl _ _ rfl aY cY ds _ ts rfl rfl (HT.out.up HU2.out) (by have := HOp.out; unfold Ow at this; rw [← HN.out] at this; exact this) Hs2.out (by rw [← HN2.out]; omega) ?_
  intro aX cX w3 o3 hu3
  have HU3 := Hid.of (hu3 w HU2.out HU1.out.size)
  have hlX : n + ts.length = n + n2 := by rw [← HN2.out]
  rw [hlX] at o3
  rw [hlX]
  have HO3 := Hid.of (show Ow w3 w1.heap.size (.slice aX (n + n2) cX) (ds ++ ts) by unfold Ow; rw [List.length_append, ← HN.out, ← HN2.out]; exact o3)
  clear o3 hu3 hlX
  simp only [Act.put, List.setIfInBounds_toArray, List.set_cons_zero, List.set_cons_succ]
  obtain ⟨nX, hnXe⟩ : ∃ nX, n + n2 = nX := ⟨_, rfl⟩
  have hnX : nX ≤ 2097152 := by omega
  rw [hnXe] at HO3 ⊢
  clear hnXe
  have HAx0 := Hid.of (Ow.sb HO3.out)
  clear HO3 HOp HT
  go_wp2_with fail
  refine (HPQ1.out w3 HU3.out).mono ?_
  rintro e w4 ⟨aR, cR, vR, rfl, hO, h9⟩
  have HU4 := Hid.of (HU3.out.trans h9)
  have HAx4 := Hid.of (HAx0.out.up h9)
  have HF4 := Hid.of (FdO.fdl hO.out.1)
  have HB4 := Hid.of (Ow.sb hO.out.2)
  clear hO h9
  obtain ⟨aB, nB, cB, rfl⟩ := Sb.shape HB4.out
  obtain ⟨m1, t1, mi1, fs1, cl1, b1, n1, e1⟩ := d1
  unfold qV
  dsimp only at hfQ hmQ HF4 HB4 ⊢
  obtain ⟨nf1, hnf1⟩ : ∃ nf1, fs1.length = nf1 := ⟨_, rfl⟩
  have HN1 := Hid.of hnf1
  rw [hnf1]
  clear hnf1
  go_wp2_with fail
  obtain ⟨w5, hw5⟩ : ∃ w5, w4.alloc (.cells #[.string m1, .string t1, .int .i64 mi1, .slice aR nf1 cR, .slice aB nB cB, .bool cl1] 27) = w5 := ⟨_, rfl⟩
  have HU5 := Hid.of (show Up w w5 by rw [← hw5]; exact HU4.out.alloc _)
  have HR5 := Hid.of (show At w5 w4.heap.size 27 [.string m1, .string t1, .int .i64 mi1, .slice aR nf1 cR, .slice aB nB cB, .bool cl1] by rw [← hw5]; exact at_new w4 27 [.string m1, .string t1, .int .i64 mi1, .slice aR nf1 cR, .slice aB nB cB, .bool cl1])
  have Hu5 := Hid.of (show Up w4 w5 by rw [← hw5]; exact (Up.refl w4).alloc _)
  change Calls _ _ _ (w4.alloc (.cells #[.string m1, .string t1, .int .i64 mi1, .slice aR nf1 cR, .slice aB nB cB, .bool cl1] 27)) _
  rw [hw5]
  clear hw5
  have HAx5 := Hid.of (HAx4.out.up Hu5.out)
  refine (HPQ2.out w5 aX nX cX hnX HAx5.out HU5.out).mono ?_
  rintro e w6 ⟨aR2, cR2, vR2, rfl, hO, h9⟩
  have HU6 := Hid.of (HU5.out.trans h9)
  have HR6 := Hid.of (HR5.out.up h9)
  have HF6 := Hid.of ((HF4.out.up Hu5.out).up h9)
  have HB6 := Hid.of ((HB4.out.up Hu5.out).up h9)
  have HG6 := Hid.of (FdO.fdl hO.out.1)
  have HC6 := Hid.of (Ow.sb hO.out.2)
  have HAx6 := Hid.of (HAx5.out.up h9)
  clear hO h9 HAx0 HAx4 HAx5
  obtain ⟨aC, nC, cC, rfl⟩ := Sb.shape HC6.out
  obtain ⟨m2, t2, mi2, fs2, cl2, b2, n2', e2⟩ := d2
  unfold qV
  dsimp only at hfQ HG6 HC6 ⊢
  obtain ⟨nf2, hnf2⟩ : ∃ nf2, fs2.length = nf2 := ⟨_, rfl⟩
  have HN2' := Hid.of hnf2
  rw [hnf2]
  clear hnf2
  obtain ⟨w7, hw7⟩ : ∃ w7, w6.alloc (.cells #[.string m2, .string t2, .int .i64 mi2, .slice aR2 nf2 cR2, .slice aC nC cC, .bool cl2] 27) = w7 := ⟨_, rfl⟩
  have HU7 := Hid.of (show Up w w7 by rw [← hw7]; exact HU6.out.alloc _)
  have HS7 := Hid.of (show At w7 w6.heap.size 27 [.string m2, .string t2, .int .i64 mi2, .slice aR2 nf2 cR2, .slice aC nC cC, .bool cl2] by rw [← hw7]; exact at_new w6 27 [.string m2, .string t2, .int .i64 mi2, .slice aR2 nf2 cR2, .slice aC nC cC, .bool cl2])
  have Hu7 := Hid.of (show Up w6 w7 by rw [← hw7]; exact (Up.refl w6).alloc _)
  have HR7 := Hid.of (HR6.out.up Hu7.out)
  have HF7 := Hid.of (HF6.out.up Hu7.out)
  have HB7 := Hid.of (HB6.out.up Hu7.out)
  have HG7 := Hid.of (HG6.out.up Hu7.out)
  have HC7 := Hid.of (HC6.out.up Hu7.out)
  have HAx7 := Hid.of (HAx6.out.up Hu7.out)
  have HW7 := Hid.of hw7
  clear hw7
  rcases hfQ with ⟨g1, g2, g3⟩ | ⟨g1, g2, g3, g4⟩
  · injection g2 with i1 i2 i3 i4 i5 i6 i7 i8
    subst i1 i2 i3 i4 i5 i6 i7 i8
    have hnf : nf2 = nf1 := by rw [← HN2'.out, ← HN1.out]
    subst hnf
    rw [← HN.out] at g3
    have y1 : (e2 != 140) = true := by simpa using g1
    have y2 : (e2 == 140) = false := by simpa using g1
    have y3 : (e2 != e2) = false := by simp
    have y4 : (n2' != n2') = false := by simp
    have y5 : ¬ (n : Int) < n2' := by omega
    have HTw := Hid.of (twins_same m2 t2 mi2 fs2 nf2 cl2 aR aR2 cR cR2 (.slice aB nB cB) (.slice aC nC cC) b2 HN2'.out (by rw [← HN2'.out]; exact hmQ.1) w7 HF7.out HG7.out HB7.out HC7.out)
    clear g1 g3 hmQ
    go_wp2_with (with_reducible show wpList _ _ _ ({ dst := _, op := Op.load 27 _, type := _, pos := _, after := _, guard := _ } :: _) _ _; refine Shut.out ?_)
    show wpList _ _ _ _ _ _
    change wpList _ _ _ _ _ (w6.alloc (.cells #[.string m2, .string t2, .int .i64 mi2, .slice aR2 nf2 cR2, .slice aC nC cC, .bool cl2] 27))
    rw [HW7.out]
    refine wpList_valG (.agg [.string m2, .string t2, .int .i64 mi2, .slice aR nf2 cR, .slice aB nB cB, .bool cl2].toArray) (by kernel_rfl) (exec_load6 rfl rfl HR7.out.range) ?_
    simp only [Act.put, List.setIfInBounds_toArray, List.set_cons_zero, List.set_cons_succ]
    go_wp2_with (with_reducible show wpList _ _ _ ({ dst := _, op := Op.load 27 _, type := _, pos := _, after := _, guard := _ } :: _) _ _; refine Shut.out ?_)
    show wpList _ _ _ _ _ _
    refine wpList_valG (.agg [.string m2, .string t2, .int .i64 mi2, .slice aR2 nf2 cR2, .slice aC nC cC, .bool cl2].toArray) (by kernel_rfl) (exec_load6 rfl rfl HS7.out.range) ?_
    simp only [Act.put, List.setIfInBounds_toArray, List.set_cons_zero, List.set_cons_succ]
    go_wp2_with fail
    refine HTw.out.mono ?_
    rintro e wk ⟨rfl, uk⟩
    have HUwk := Hid.of (HU7.out.trans uk)
    have HAx := Hid.of (fun (w2 : World) (hu : Up wk w2) => (HAx7.out.up uk).up hu)
    clear uk HTw
    dsimp only
    clear y1 y3 y4
    go_wp2_with fail
    refine (HPS1.out wk HUwk.out).mono ?_
    rintro e w8 ⟨aP, cP, vP, rfl, hO, h9⟩
    have HU8 := Hid.of (HUwk.out.trans h9)
    have Hk8 := Hid.of h9
    have HF8 := Hid.of (FdO.fdl hO.out.1)
    have HB8 := Hid.of (Ow.sb hO.out.2)
    clear hO h9
    obtain ⟨aD, nD, cD, rfl⟩ := Sb.shape HB8.out
    obtain ⟨st3, mi3, fs3, cl3, b3, n3, e3⟩ := s1
    unfold sV
    dsimp only at hfS hmS HF8 HB8 ⊢
    obtain ⟨nf3, hnf3⟩ : ∃ nf3, fs3.length = nf3 := ⟨_, rfl⟩
    have HN3 := Hid.of hnf3
    rw [hnf3]
    clear hnf3
    go_wp2_with fail
    obtain ⟨w9, hw9⟩ : ∃ w9, w8.alloc (.cells #[.int .i64 st3, .int .i64 mi3, .slice aP nf3 cP, .slice aD nD cD, .bool cl3] 33) = w9 := ⟨_, rfl⟩
    have HU9 := Hid.of (show Up w w9 by rw [← hw9]; exact HU8.out.alloc _)
    have HP9 := Hid.of (show At w9 w8.heap.size 33 [.int .i64 st3, .int .i64 mi3, .slice aP nf3 cP, .slice aD nD cD, .bool cl3] by rw [← hw9]; exact at_new w8 33 [.int .i64 st3, .int .i64 mi3, .slice aP nf3 cP, .slice aD nD cD, .bool cl3])
    have Hu9 := Hid.of (show Up w8 w9 by rw [← hw9]; exact (Up.refl w8).alloc _)
    have Hk9 := Hid.of (show Up wk w9 by rw [← hw9]; exact Hk8.out.alloc _)
    change Calls _ _ _ (w8.alloc (.cells #[.int .i64 st3, .int .i64 mi3, .slice aP nf3 cP, .slice aD nD cD, .bool cl3] 33)) _
    rw [hw9]
    clear hw9
    refine (HPS2.out w9 aX nX cX hnX (HAx.out w9 Hk9.out) HU9.out).mono ?_
    rintro e w10 ⟨aQ, cQ, vQ, rfl, hO, h9⟩
    have HU10 := Hid.of (HU9.out.trans h9)
    have HP10 := Hid.of (HP9.out.up h9)
    have HF10 := Hid.of ((HF8.out.up Hu9.out).up h9)
    have HB10 := Hid.of ((HB8.out.up Hu9.out).up h9)
    have HG10 := Hid.of (FdO.fdl hO.out.1)
    have HC10 := Hid.of (Ow.sb hO.out.2)
    clear hO h9
    obtain ⟨aE, nE, cE, rfl⟩ := Sb.shape HC10.out
    obtain ⟨st4, mi4, fs4, cl4, b4, n4, e4⟩ := s2
    unfold sV
    dsimp only at hfS HG10 HC10 ⊢
    obtain ⟨nf4, hnf4⟩ : ∃ nf4, fs4.length = nf4 := ⟨_, rfl⟩
    have HN4 := Hid.of hnf4
    rw [hnf4]
    clear hnf4
    obtain ⟨w11, hw11⟩ : ∃ w11, w10.alloc (.cells #[.int .i64 st4, .int .i64 mi4, .slice aQ nf4 cQ, .slice aE nE cE, .bool cl4] 33) = w11 := ⟨_, rfl⟩
    have HU11 := Hid.of (show Up w w11 by rw [← hw11]; exact HU10.out.alloc _)
    have HQ11 := Hid.of (show At w11 w10.heap.size 33 [.int .i64 st4, .int .i64 mi4, .slice aQ nf4 cQ, .slice aE nE cE, .bool cl4] by rw [← hw11]; exact at_new w10 33 [.int .i64 st4, .int .i64 mi4, .slice aQ nf4 cQ, .slice aE nE cE, .bool cl4])
    have Hu11 := Hid.of (show Up w10 w11 by rw [← hw11]; exact (Up.refl w10).alloc _)
    have HP11 := Hid.of (HP10.out.up Hu11.out)
    have HF11 := Hid.of (HF10.out.up Hu11.out)
    have HB11 := Hid.of (HB10.out.up Hu11.out)
    have HG11 := Hid.of (HG10.out.up Hu11.out)
    have HC11 := Hid.of (HC10.out.up Hu11.out)
    have HW11 := Hid.of hw11
    clear hw11
    have p2 : (w10.alloc (.cells #[.int .i64 st4, .int .i64 mi4, .slice aQ nf4 cQ, .slice aE nE cE, .bool cl4] 33)).cell? ⟨w8.heap.size, 2, none⟩ = some (.slice aP nf3 cP) := by rw [HW11.out]; exact HP11.out.cell (i := 2) rfl
    go_wp2_with fail
    change Calls _ _ _ (w10.alloc (.cells #[.int .i64 st4, .int .i64 mi4, .slice aQ nf4 cQ, .slice aE nE cE, .bool cl4] 33)) _
    rw [HW11.out]
    clear p2
    have HV1 := Hid.of (fun (w2 : World) (hu : Up w11 w2) => Value_walk aP fs3 cP clN w2 (HF11.out.up hu) (by have := hmS.1; omega) (fun f hf => by have := (hmS.2 f hf).1; omega))
    have HV2 := Hid.of (fun (w2 : World) (hu : Up w11 w2) => Value_walk aP fs3 cP teN w2 (HF11.out.up hu) (by have := hmS.1; omega) (fun f hf => by have := (hmS.2 f hf).1; omega))
    rw [HN3.out] at HV1 HV2
    unfold clN at HV1
    unfold teN at HV2
    refine (HV1.out w11 (Up.refl _)).mono ?_
    rintro e w12 ⟨rfl, u12⟩
    have Hu12 := Hid.of u12
    have p2 : w12.cell? ⟨w8.heap.size, 2, none⟩ = some (.slice aP nf3 cP) := (HP11.out.up u12).cell (i := 2) rfl
    clear u12
    obtain ⟨y1, z1, hz1, hy1⟩ : ∃ (y1 : ByteArray) (z1 : Bool), vlR fs3 clN = .tuple #[.string y1, .bool z1] ∧ z1 = (fnd fs3 clN).isSome := by
      unfold vlR
      cases fnd fs3 clN with
      | none => exact ⟨_, _, rfl, rfl⟩
      | some f => exact ⟨_, _, rfl, rfl⟩
    obtain ⟨y2, z2', hz2, hy2⟩ : ∃ (y2 : ByteArray) (z2' : Bool), vlR fs3 teN = .tuple #[.string y2, .bool z2'] ∧ z2' = (fnd fs3 teN).isSome := by
      unfold vlR
      cases fnd fs3 teN with
      | none => exact ⟨_, _, rfl, rfl⟩
      | some f => exact ⟨_, _, rfl, rfl⟩
    have HY1 := Hid.of hy1
    have HY2 := Hid.of hy2
    clear hy1 hy2
    unfold clN at hz1
    unfold teN at hz2
    rw [hz1]
    rw [hz2] at HV2
    clear hz1 hz2
    dsimp only
    go_wp2_with fail
    refine (HV2.out w12 Hu12.out).mono ?_
    rintro e w13 ⟨rfl, u13⟩
    have Hu13 := Hid.of (Hu12.out.trans u13)
    have HU13 := Hid.of (HU11.out.trans Hu13.out)
    clear u13 p2 HV1 HV2
    dsimp only
    have HP13 := Hid.of (HP11.out.up Hu13.out)
    have HQ13 := Hid.of (HQ11.out.up Hu13.out)
    have HF13 := Hid.of (HF11.out.up Hu13.out)
    have HB13 := Hid.of (HB11.out.up Hu13.out)
    have HG13 := Hid.of (HG11.out.up Hu13.out)
    have HC13 := Hid.of (HC11.out.up Hu13.out)
    have HnS := Hid.of hmS.1
    clear hmS
    rcases hfS with ⟨g1, g2, g3, g4, g5⟩ | ⟨g1, g2⟩ | ⟨g1, g2, g3, g4⟩
    · have hz1 : z1 = false := by rw [HY1.out, g2]; rfl
      have hz2 : z2' = false := by rw [HY2.out, g3]; rfl
      subst hz1 hz2 g1
      rw [← HN.out] at g4
      have HG5 := Hid.of g5
      clear HY1 HY2 g2 g3 g5
      by_cases h4 : e4 = 0
      · have h4z : (e4 != 0) = false := by rw [h4]; rfl
        obtain ⟨hst, hfs⟩ := HG5.out h4
        subst hst hfs
        have hnf : nf4 = nf3 := by rw [← HN4.out, ← HN3.out]
        subst hnf
        clear h4 HG5
        have hst : (st4 == st4) = true := beq_self_eq_true _
        have k0 : w13.cell? ⟨w8.heap.size, 0, none⟩ = some (.int .i64 st4) := HP13.out.cell (i := 0) rfl
        have k2 : w13.cell? ⟨w8.heap.size, 2, none⟩ = some (.slice aP nf4 cP) := HP13.out.cell (i := 2) rfl
        have j0 : w13.cell? ⟨w10.heap.size, 0, none⟩ = some (.int .i64 st4) := HQ13.out.cell (i := 0) rfl
        have j2 : w13.cell? ⟨w10.heap.size, 2, none⟩ = some (.slice aQ nf4 cQ) := HQ13.out.cell (i := 2) rfl
        have HAk := Hid.of (alike_same aP aQ fs4 cP cQ nf4 HN4.out (by rw [← HN4.out]; exact HnS.out) w13 HF13.out HG13.out)
        go_wp2_with fail
        refine HAk.out.mono ?_
        rintro e w14 ⟨rfl, u14⟩
        have HU14 := Hid.of (HU13.out.trans u14)
        clear u14
        dsimp only
        go_wp2
        go_ret
        exact ⟨rfl, HU14.out⟩
      · have h4z : (e4 != 0) = true := by simpa using h4
        clear h4 HG5
        go_wp2
        go_ret
        exact ⟨rfl, HU13.out⟩
    · have h0 : (e3 == 0) = false := by rw [g1]; rfl
      have h1 : (e3 == 140) = true := by rw [g1]; rfl
      have h2 : (n3 == 0) = true := by rw [g2]; rfl
      clear g1 g2
      go_wp2
      go_ret
      exact ⟨rfl, HU13.out⟩
    · injection g3 with i1 i2 i3 i4 i5 i6 i7
      subst i1 i2 i3 i4 i5 i6 i7
      have hnf : nf4 = nf3 := by rw [← HN4.out, ← HN3.out]
      subst hnf
      rw [← HN.out] at g4
      have h1 : (e4 == 140) = false := by simpa using g2
      have q1 : (e4 == e4) = true := beq_self_eq_true _
      have q2 : (n4 == n4) = true := beq_self_eq_true _
      have HPr := Hid.of (pairs_same st4 mi4 fs4 nf4 cl4 aP aQ cP cQ (.slice aD nD cD) (.slice aE nE cE) b4 HN4.out (by rw [← HN4.out]; exact HnS.out) w13 HF13.out HG13.out HB13.out HC13.out)
      have HG1 := Hid.of g1
      clear g1 g2
      rcases (show (e4 == 0) = false ∨ ((e4 == 0) = true ∧ z1 = true) ∨ ((e4 == 0) = true ∧ z1 = false ∧ z2' = true) from by
        by_cases h0 : e4 = 0
        · right
          have h0z : (e4 == 0) = true := by rw [h0]; rfl
          rcases HG1.out h0 with h | h
          · exact .inl ⟨h0z, by rw [HY1.out]; exact h⟩
          · by_cases hz : z1 = true
            · exact .inl ⟨h0z, hz⟩
            · exact .inr ⟨h0z, by simpa using hz, by rw [HY2.out]; exact h⟩
        · exact .inl (by simpa using h0)) with h0 | ⟨h0, hz⟩ | ⟨h0, hz, hz'⟩
      · clear HG1 HY1 HY2
        go_wp2_with (with_reducible show wpList _ _ _ ({ dst := _, op := Op.load 33 _, type := _, pos := _, after := _, guard := _ } :: _) _ _; refine Shut.out ?_)
        show wpList _ _ _ _ _ _
        refine wpList_valG (.agg [.int .i64 st4, .int .i64 mi4, .slice aP nf4 cP, .slice aD nD cD, .bool cl4].toArray) (by kernel_rfl) (exec_load5 rfl rfl HP13.out.range) ?_
        simp only [Act.put, List.setIfInBounds_toArray, List.set_cons_zero, List.set_cons_succ]
        go_wp2_with (with_reducible show wpList _ _ _ ({ dst := _, op := Op.load 33 _, type := _, pos := _, after := _, guard := _ } :: _) _ _; refine Shut.out ?_)
        show wpList _ _ _ _ _ _
        refine wpList_valG (.agg [.int .i64 st4, .int .i64 mi4, .slice aQ nf4 cQ, .slice aE nE cE, .bool cl4].toArray) (by kernel_rfl) (exec_load5 rfl rfl HQ13.out.range) ?_
        simp only [Act.put, List.setIfInBounds_toArray, List.set_cons_zero, List.set_cons_succ]
        go_wp2_with fail
        refine HPr.out.mono ?_
        rintro e w14 ⟨rfl, u14⟩
        have HU14 := Hid.of (HU13.out.trans u14)
        clear u14
        dsimp only
        go_wp2
        go_ret
        exact ⟨rfl, HU14.out⟩
      · subst hz
        clear HG1 HY1 HY2
        go_wp2_with (with_reducible show wpList _ _ _ ({ dst := _, op := Op.load 33 _, type := _, pos := _, after := _, guard := _ } :: _) _ _; refine Shut.out ?_)
        show wpList _ _ _ _ _ _
        refine wpList_valG (.agg [.int .i64 st4, .int .i64 mi4, .slice aP nf4 cP, .slice aD nD cD, .bool cl4].toArray) (by kernel_rfl) (exec_load5 rfl rfl HP13.out.range) ?_
        simp only [Act.put, List.setIfInBounds_toArray, List.set_cons_zero, List.set_cons_succ]
        go_wp2_with (with_reducible show wpList _ _ _ ({ dst := _, op := Op.load 33 _, type := _, pos := _, after := _, guard := _ } :: _) _ _; refine Shut.out ?_)
        show wpList _ _ _ _ _ _
        refine wpList_valG (.agg [.int .i64 st4, .int .i64 mi4, .slice aQ nf4 cQ, .slice aE nE cE, .bool cl4].toArray) (by kernel_rfl) (exec_load5 rfl rfl HQ13.out.range) ?_
        simp only [Act.put, List.setIfInBounds_toArray, List.set_cons_zero, List.set_cons_succ]
        go_wp2_with fail
        refine HPr.out.mono ?_
        rintro e w14 ⟨rfl, u14⟩
        have HU14 := Hid.of (HU13.out.trans u14)
        clear u14
        dsimp only
        go_wp2
        go_ret
        exact ⟨rfl, HU14.out⟩
      · subst hz hz'
        clear HG1 HY1 HY2
        go_wp2_with (with_reducible show wpList _ _ _ ({ dst := _, op := Op.load 33 _, type := _, pos := _, after := _, guard := _ } :: _) _ _; refine Shut.out ?_)
        show wpList _ _ _ _ _ _
        refine wpList_valG (.agg [.int .i64 st4, .int .i64 mi4, .slice aP nf4 cP, .slice aD nD cD, .bool cl4].toArray) (by kernel_rfl) (exec_load5 rfl rfl HP13.out.range) ?_
        simp only [Act.put, List.setIfInBounds_toArray, List.set_cons_zero, List.set_cons_succ]
        go_wp2_with (with_reducible show wpList _ _ _ ({ dst := _, op := Op.load 33 _, type := _, pos := _, after := _, guard := _ } :: _) _ _; refine Shut.out ?_)
        show wpList _ _ _ _ _ _
        refine wpList_valG (.agg [.int .i64 st4, .int .i64 mi4, .slice aQ nf4 cQ, .slice aE nE cE, .bool cl4].toArray) (by kernel_rfl) (exec_load5 rfl rfl HQ13.out.range) ?_
        simp only [Act.put, List.setIfInBounds_toArray, List.set_cons_zero, List.set_cons_succ]
        go_wp2_with fail
        refine HPr.out.mono ?_
        rintro e w14 ⟨rfl, u14⟩
        have HU14 := Hid.of (HU13.out.trans u14)
        clear u14
        dsimp only
        go_wp2
        go_ret
        exact ⟨rfl, HU14.out⟩
  · subst g3
    have y1 : (e1 != 140) = false := by rw [g1]; rfl
    have y2 : (e1 == 140) = true := by rw [g1]; rfl
    have y3 : (n1 != 0) = false := by rw [g2]; rfl
    rw [← HN.out] at g4
    have HG4 := Hid.of g4
    clear g1 g2 g4 hmQ
    have r0 : (w6.alloc (.cells #[.string m2, .string t2, .int .i64 mi2, .slice aR2 nf2 cR2, .slice aC nC cC, .bool cl2] 27)).cell? ⟨w4.heap.size, 0, none⟩ = some (.string ⟨#[]⟩) := by rw [HW7.out]; exact HR7.out.cell (i := 0) rfl
    have HUw7 := Hid.of HU7.out
    have HAx := Hid.of (fun (w2 : World) (hu : Up w7 w2) => HAx7.out.up hu)
    by_cases h2 : e2 = 0
    · have h2z : (e2 == 0) = true := by rw [h2]; rfl
      have y5 : ¬ n2' ≤ (n : Int) := by have := HG4.out h2; omega
      clear h2 HG4
      go_wp2_with fail
      change Calls _ _ _ (w6.alloc (.cells #[.string m2, .string t2, .int .i64 mi2, .slice aR2 nf2 cR2, .slice aC nC cC, .bool cl2] 27)) _
      rw [HW7.out]
      clear r0
      refine (HPS1.out w7 HUw7.out).mono ?_
      rintro e w8 ⟨aP, cP, vP, rfl, hO, h9⟩
      have HU8 := Hid.of (HUw7.out.trans h9)
      have Hk8 := Hid.of h9
      have HF8 := Hid.of (FdO.fdl hO.out.1)
      have HB8 := Hid.of (Ow.sb hO.out.2)
      clear hO h9
      obtain ⟨aD, nD, cD, rfl⟩ := Sb.shape HB8.out
      obtain ⟨st3, mi3, fs3, cl3, b3, n3, e3⟩ := s1
      unfold sV
      dsimp only at hfS hmS HF8 HB8 ⊢
      obtain ⟨nf3, hnf3⟩ : ∃ nf3, fs3.length = nf3 := ⟨_, rfl⟩
      have HN3 := Hid.of hnf3
      rw [hnf3]
      clear hnf3
      go_wp2_with fail
      obtain ⟨w9, hw9⟩ : ∃ w9, w8.alloc (.cells #[.int .i64 st3, .int .i64 mi3, .slice aP nf3 cP, .slice aD nD cD, .bool cl3] 33) = w9 := ⟨_, rfl⟩
      have HU9 := Hid.of (show Up w w9 by rw [← hw9]; exact HU8.out.alloc _)
      have HP9 := Hid.of (show At w9 w8.heap.size 33 [.int .i64 st3, .int .i64 mi3, .slice aP nf3 cP, .slice aD nD cD, .bool cl3] by rw [← hw9]; exact at_new w8 33 [.int .i64 st3, .int .i64 mi3, .slice aP nf3 cP, .slice aD nD cD, .bool cl3])
      have Hu9 := Hid.of (show Up w8 w9 by rw [← hw9]; exact (Up.refl w8).alloc _)
      have Hk9 := Hid.of (show Up w7 w9 by rw [← hw9]; exact Hk8.out.alloc _)
      change Calls _ _ _ (w8.alloc (.cells #[.int .i64 st3, .int .i64 mi3, .slice aP nf3 cP, .slice aD nD cD, .bool cl3] 33)) _
      rw [hw9]
      clear hw9
      refine (HPS2.out w9 aX nX cX hnX (HAx.out w9 Hk9.out) HU9.out).mono ?_
      rintro e w10 ⟨aQ, cQ, vQ, rfl, hO, h9⟩
      have HU10 := Hid.of (HU9.out.trans h9)
      have HP10 := Hid.of (HP9.out.up h9)
      have HF10 := Hid.of ((HF8.out.up Hu9.out).up h9)
      have HB10 := Hid.of ((HB8.out.up Hu9.out).up h9)
      have HG10 := Hid.of (FdO.fdl hO.out.1)
      have HC10 := Hid.of (Ow.sb hO.out.2)
      clear hO h9
      obtain ⟨aE, nE, cE, rfl⟩ := Sb.shape HC10.out
      obtain ⟨st4, mi4, fs4, cl4, b4, n4, e4⟩ := s2
      unfold sV
      dsimp only at hfS HG10 HC10 ⊢
      obtain ⟨nf4, hnf4⟩ : ∃ nf4, fs4.length = nf4 := ⟨_, rfl⟩
      have HN4 := Hid.of hnf4
      rw [hnf4]
      clear hnf4
      obtain ⟨w11, hw11⟩ : ∃ w11, w10.alloc (.cells #[.int .i64 st4, .int .i64 mi4, .slice aQ nf4 cQ, .slice aE nE cE, .bool cl4] 33) = w11 := ⟨_, rfl⟩
      have HU11 := Hid.of (show Up w w11 by rw [← hw11]; exact HU10.out.alloc _)
      have HQ11 := Hid.of (show At w11 w10.heap.size 33 [.int .i64 st4, .int .i64 mi4, .slice aQ nf4 cQ, .slice aE nE cE, .bool cl4] by rw [← hw11]; exact at_new w10 33 [.int .i64 st4, .int .i64 mi4, .slice aQ nf4 cQ, .slice aE nE cE, .bool cl4])
      have Hu11 := Hid.of (show Up w10 w11 by rw [← hw11]; exact (Up.refl w10).alloc _)
      have HP11 := Hid.of (HP10.out.up Hu11.out)
      have HF11 := Hid.of (HF10.out.up Hu11.out)
      have HB11 := Hid.of (HB10.out.up Hu11.out)
      have HG11 := Hid.of (HG10.out.up Hu11.out)
      have HC11 := Hid.of (HC10.out.up Hu11.out)
      have HW11 := Hid.of hw11
      clear hw11
      have p2 : (w10.alloc (.cells #[.int .i64 st4, .int .i64 mi4, .slice aQ nf4 cQ, .slice aE nE cE, .bool cl4] 33)).cell? ⟨w8.heap.size, 2, none⟩ = some (.slice aP nf3 cP) := by rw [HW11.out]; exact HP11.out.cell (i := 2) rfl
      go_wp2_with fail
      change Calls _ _ _ (w10.alloc (.cells #[.int .i64 st4, .int .i64 mi4, .slice aQ nf4 cQ, .slice aE nE cE, .bool cl4] 33)) _
      rw [HW11.out]
      clear p2
      have HV1 := Hid.of (fun (w2 : World) (hu : Up w11 w2) => Value_walk aP fs3 cP clN w2 (HF11.out.up hu) (by have := hmS.1; omega) (fun f hf => by have := (hmS.2 f hf).1; omega))
      have HV2 := Hid.of (fun (w2 : World) (hu : Up w11 w2) => Value_walk aP fs3 cP teN w2 (HF11.out.up hu) (by have := hmS.1; omega) (fun f hf => by have := (hmS.2 f hf).1; omega))
      rw [HN3.out] at HV1 HV2
      unfold clN at HV1
      unfold teN at HV2
      refine (HV1.out w11 (Up.refl _)).mono ?_
      rintro e w12 ⟨rfl, u12⟩
      have Hu12 := Hid.of u12
      have p2 : w12.cell? ⟨w8.heap.size, 2, none⟩ = some (.slice aP nf3 cP) := (HP11.out.up u12).cell (i := 2) rfl
      clear u12
      obtain ⟨y1, z1, hz1, hy1⟩ : ∃ (y1 : ByteArray) (z1 : Bool), vlR fs3 clN = .tuple #[.string y1, .bool z1] ∧ z1 = (fnd fs3 clN).isSome := by
        unfold vlR
        cases fnd fs3 clN with
        | none => exact ⟨_, _, rfl, rfl⟩
        | some f => exact ⟨_, _, rfl, rfl⟩
      obtain ⟨y2, z2', hz2, hy2⟩ : ∃ (y2 : ByteArray) (z2' : Bool), vlR fs3 teN = .tuple #[.string y2, .bool z2'] ∧ z2' = (fnd fs3 teN).isSome := by
        unfold vlR
        cases fnd fs3 teN with
        | none => exact ⟨_, _, rfl, rfl⟩
        | some f => exact ⟨_, _, rfl, rfl⟩
      have HY1 := Hid.of hy1
      have HY2 := Hid.of hy2
      clear hy1 hy2
      unfold clN at hz1
      unfold teN at hz2
      rw [hz1]
      rw [hz2] at HV2
      clear hz1 hz2
      dsimp only
      go_wp2_with fail
      refine (HV2.out w12 Hu12.out).mono ?_
      rintro e w13 ⟨rfl, u13⟩
      have Hu13 := Hid.of (Hu12.out.trans u13)
      have HU13 := Hid.of (HU11.out.trans Hu13.out)
      clear u13 p2 HV1 HV2
      dsimp only
      have HP13 := Hid.of (HP11.out.up Hu13.out)
      have HQ13 := Hid.of (HQ11.out.up Hu13.out)
      have HF13 := Hid.of (HF11.out.up Hu13.out)
      have HB13 := Hid.of (HB11.out.up Hu13.out)
      have HG13 := Hid.of (HG11.out.up Hu13.out)
      have HC13 := Hid.of (HC11.out.up Hu13.out)
      have HnS := Hid.of hmS.1
      clear hmS
      rcases hfS with ⟨g1, g2, g3, g4, g5⟩ | ⟨g1, g2⟩ | ⟨g1, g2, g3, g4⟩
      · have hz1 : z1 = false := by rw [HY1.out, g2]; rfl
        have hz2 : z2' = false := by rw [HY2.out, g3]; rfl
        subst hz1 hz2 g1
        rw [← HN.out] at g4
        have HG5 := Hid.of g5
        clear HY1 HY2 g2 g3 g5
        by_cases h4 : e4 = 0
        · have h4z : (e4 != 0) = false := by rw [h4]; rfl
          obtain ⟨hst, hfs⟩ := HG5.out h4
          subst hst hfs
          have hnf : nf4 = nf3 := by rw [← HN4.out, ← HN3.out]
          subst hnf
          clear h4 HG5
          have hst : (st4 == st4) = true := beq_self_eq_true _
          have k0 : w13.cell? ⟨w8.heap.size, 0, none⟩ = some (.int .i64 st4) := HP13.out.cell (i := 0) rfl
          have k2 : w13.cell? ⟨w8.heap.size, 2, none⟩ = some (.slice aP nf4 cP) := HP13.out.cell (i := 2) rfl
          have j0 : w13.cell? ⟨w10.heap.size, 0, none⟩ = some (.int .i64 st4) := HQ13.out.cell (i := 0) rfl
          have j2 : w13.cell? ⟨w10.heap.size, 2, none⟩ = some (.slice aQ nf4 cQ) := HQ13.out.cell (i := 2) rfl
          have HAk := Hid.of (alike_same aP aQ fs4 cP cQ nf4 HN4.out (by rw [← HN4.out]; exact HnS.out) w13 HF13.out HG13.out)
          go_wp2_with fail
          refine HAk.out.mono ?_
          rintro e w14 ⟨rfl, u14⟩
          have HU14 := Hid.of (HU13.out.trans u14)
          clear u14
          dsimp only
          go_wp2
          go_ret
          exact ⟨rfl, HU14.out⟩
        · have h4z : (e4 != 0) = true := by simpa using h4
          clear h4 HG5
          go_wp2
          go_ret
          exact ⟨rfl, HU13.out⟩
      · have h0 : (e3 == 0) = false := by rw [g1]; rfl
        have h1 : (e3 == 140) = true := by rw [g1]; rfl
        have h2 : (n3 == 0) = true := by rw [g2]; rfl
        clear g1 g2
        go_wp2
        go_ret
        exact ⟨rfl, HU13.out⟩
      · injection g3 with i1 i2 i3 i4 i5 i6 i7
        subst i1 i2 i3 i4 i5 i6 i7
        have hnf : nf4 = nf3 := by rw [← HN4.out, ← HN3.out]
        subst hnf
        rw [← HN.out] at g4
        have h1 : (e4 == 140) = false := by simpa using g2
        have q1 : (e4 == e4) = true := beq_self_eq_true _
        have q2 : (n4 == n4) = true := beq_self_eq_true _
        have HPr := Hid.of (pairs_same st4 mi4 fs4 nf4 cl4 aP aQ cP cQ (.slice aD nD cD) (.slice aE nE cE) b4 HN4.out (by rw [← HN4.out]; exact HnS.out) w13 HF13.out HG13.out HB13.out HC13.out)
        have HG1 := Hid.of g1
        clear g1 g2
        rcases (show (e4 == 0) = false ∨ ((e4 == 0) = true ∧ z1 = true) ∨ ((e4 == 0) = true ∧ z1 = false ∧ z2' = true) from by
          by_cases h0 : e4 = 0
          · right
            have h0z : (e4 == 0) = true := by rw [h0]; rfl
            rcases HG1.out h0 with h | h
            · exact .inl ⟨h0z, by rw [HY1.out]; exact h⟩
            · by_cases hz : z1 = true
              · exact .inl ⟨h0z, hz⟩
              · exact .inr ⟨h0z, by simpa using hz, by rw [HY2.out]; exact h⟩
          · exact .inl (by simpa using h0)) with h0 | ⟨h0, hz⟩ | ⟨h0, hz, hz'⟩
        · clear HG1 HY1 HY2
          go_wp2_with (with_reducible show wpList _ _ _ ({ dst := _, op := Op.load 33 _, type := _, pos := _, after := _, guard := _ } :: _) _ _; refine Shut.out ?_)
          show wpList _ _ _ _ _ _
          refine wpList_valG (.agg [.int .i64 st4, .int .i64 mi4, .slice aP nf4 cP, .slice aD nD cD, .bool cl4].toArray) (by kernel_rfl) (exec_load5 rfl rfl HP13.out.range) ?_
          simp only [Act.put, List.setIfInBounds_toArray, List.set_cons_zero, List.set_cons_succ]
          go_wp2_with (with_reducible show wpList _ _ _ ({ dst := _, op := Op.load 33 _, type := _, pos := _, after := _, guard := _ } :: _) _ _; refine Shut.out ?_)
          show wpList _ _ _ _ _ _
          refine wpList_valG (.agg [.int .i64 st4, .int .i64 mi4, .slice aQ nf4 cQ, .slice aE nE cE, .bool cl4].toArray) (by kernel_rfl) (exec_load5 rfl rfl HQ13.out.range) ?_
          simp only [Act.put, List.setIfInBounds_toArray, List.set_cons_zero, List.set_cons_succ]
          go_wp2_with fail
          refine HPr.out.mono ?_
          rintro e w14 ⟨rfl, u14⟩
          have HU14 := Hid.of (HU13.out.trans u14)
          clear u14
          dsimp only
          go_wp2
          go_ret
          exact ⟨rfl, HU14.out⟩
        · subst hz
          clear HG1 HY1 HY2
          go_wp2_with (with_reducible show wpList _ _ _ ({ dst := _, op := Op.load 33 _, type := _, pos := _, after := _, guard := _ } :: _) _ _; refine Shut.out ?_)
          show wpList _ _ _ _ _ _
          refine wpList_valG (.agg [.int .i64 st4, .int .i64 mi4, .slice aP nf4 cP, .slice aD nD cD, .bool cl4].toArray) (by kernel_rfl) (exec_load5 rfl rfl HP13.out.range) ?_
          simp only [Act.put, List.setIfInBounds_toArray, List.set_cons_zero, List.set_cons_succ]
          go_wp2_with (with_reducible show wpList _ _ _ ({ dst := _, op := Op.load 33 _, type := _, pos := _, after := _, guard := _ } :: _) _ _; refine Shut.out ?_)
          show wpList _ _ _ _ _ _
          refine wpList_valG (.agg [.int .i64 st4, .int .i64 mi4, .slice aQ nf4 cQ, .slice aE nE cE, .bool cl4].toArray) (by kernel_rfl) (exec_load5 rfl rfl HQ13.out.range) ?_
          simp only [Act.put, List.setIfInBounds_toArray, List.set_cons_zero, List.set_cons_succ]
          go_wp2_with fail
          refine HPr.out.mono ?_
          rintro e w14 ⟨rfl, u14⟩
          have HU14 := Hid.of (HU13.out.trans u14)
          clear u14
          dsimp only
          go_wp2
          go_ret
          exact ⟨rfl, HU14.out⟩
        · subst hz hz'
          clear HG1 HY1 HY2
          go_wp2_with (with_reducible show wpList _ _ _ ({ dst := _, op := Op.load 33 _, type := _, pos := _, after := _, guard := _ } :: _) _ _; refine Shut.out ?_)
          show wpList _ _ _ _ _ _
          refine wpList_valG (.agg [.int .i64 st4, .int .i64 mi4, .slice aP nf4 cP, .slice aD nD cD, .bool cl4].toArray) (by kernel_rfl) (exec_load5 rfl rfl HP13.out.range) ?_
          simp only [Act.put, List.setIfInBounds_toArray, List.set_cons_zero, List.set_cons_succ]
          go_wp2_with (with_reducible show wpList _ _ _ ({ dst := _, op := Op.load 33 _, type := _, pos := _, after := _, guard := _ } :: _) _ _; refine Shut.out ?_)
          show wpList _ _ _ _ _ _
          refine wpList_valG (.agg [.int .i64 st4, .int .i64 mi4, .slice aQ nf4 cQ, .slice aE nE cE, .bool cl4].toArray) (by kernel_rfl) (exec_load5 rfl rfl HQ13.out.range) ?_
          simp only [Act.put, List.setIfInBounds_toArray, List.set_cons_zero, List.set_cons_succ]
          go_wp2_with fail
          refine HPr.out.mono ?_
          rintro e w14 ⟨rfl, u14⟩
          have HU14 := Hid.of (HU13.out.trans u14)
          clear u14
          dsimp only
          go_wp2
          go_ret
          exact ⟨rfl, HU14.out⟩
    · have h2z : (e2 == 0) = false := by simpa using h2
      clear h2 HG4
      go_wp2_with fail
      change Calls _ _ _ (w6.alloc (.cells #[.string m2, .string t2, .int .i64 mi2, .slice aR2 nf2 cR2, .slice aC nC cC, .bool cl2] 27)) _
      rw [HW7.out]
      clear r0
      refine (HPS1.out w7 HUw7.out).mono ?_
      rintro e w8 ⟨aP, cP, vP, rfl, hO, h9⟩
      have HU8 := Hid.of (HUw7.out.trans h9)
      have Hk8 := Hid.of h9
      have HF8 := Hid.of (FdO.fdl hO.out.1)
      have HB8 := Hid.of (Ow.sb hO.out.2)
      clear hO h9
      obtain ⟨aD, nD, cD, rfl⟩ := Sb.shape HB8.out
      obtain ⟨st3, mi3, fs3, cl3, b3, n3, e3⟩ := s1
      unfold sV
      dsimp only at hfS hmS HF8 HB8 ⊢
      obtain ⟨nf3, hnf3⟩ : ∃ nf3, fs3.length = nf3 := ⟨_, rfl⟩
      have HN3 := Hid.of hnf3
      rw [hnf3]
      clear hnf3
      go_wp2_with fail
      obtain ⟨w9, hw9⟩ : ∃ w9, w8.alloc (.cells #[.int .i64 st3, .int .i64 mi3, .slice aP nf3 cP, .slice aD nD cD, .bool cl3] 33) = w9 := ⟨_, rfl⟩
      have HU9 := Hid.of (show Up w w9 by rw [← hw9]; exact HU8.out.alloc _)
      have HP9 := Hid.of (show At w9 w8.heap.size 33 [.int .i64 st3, .int .i64 mi3, .slice aP nf3 cP, .slice aD nD cD, .bool cl3] by rw [← hw9]; exact at_new w8 33 [.int .i64 st3, .int .i64 mi3, .slice aP nf3 cP, .slice aD nD cD, .bool cl3])
      have Hu9 := Hid.of (show Up w8 w9 by rw [← hw9]; exact (Up.refl w8).alloc _)
      have Hk9 := Hid.of (show Up w7 w9 by rw [← hw9]; exact Hk8.out.alloc _)
      change Calls _ _ _ (w8.alloc (.cells #[.int .i64 st3, .int .i64 mi3, .slice aP nf3 cP, .slice aD nD cD, .bool cl3] 33)) _
      rw [hw9]
      clear hw9
      refine (HPS2.out w9 aX nX cX hnX (HAx.out w9 Hk9.out) HU9.out).mono ?_
      rintro e w10 ⟨aQ, cQ, vQ, rfl, hO, h9⟩
      have HU10 := Hid.of (HU9.out.trans h9)
      have HP10 := Hid.of (HP9.out.up h9)
      have HF10 := Hid.of ((HF8.out.up Hu9.out).up h9)
      have HB10 := Hid.of ((HB8.out.up Hu9.out).up h9)
      have HG10 := Hid.of (FdO.fdl hO.out.1)
      have HC10 := Hid.of (Ow.sb hO.out.2)
      clear hO h9
      obtain ⟨aE, nE, cE, rfl⟩ := Sb.shape HC10.out
      obtain ⟨st4, mi4, fs4, cl4, b4, n4, e4⟩ := s2
      unfold sV
      dsimp only at hfS HG10 HC10 ⊢
      obtain ⟨nf4, hnf4⟩ : ∃ nf4, fs4.length = nf4 := ⟨_, rfl⟩
      have HN4 := Hid.of hnf4
      rw [hnf4]
      clear hnf4
      obtain ⟨w11, hw11⟩ : ∃ w11, w10.alloc (.cells #[.int .i64 st4, .int .i64 mi4, .slice aQ nf4 cQ, .slice aE nE cE, .bool cl4] 33) = w11 := ⟨_, rfl⟩
      have HU11 := Hid.of (show Up w w11 by rw [← hw11]; exact HU10.out.alloc _)
      have HQ11 := Hid.of (show At w11 w10.heap.size 33 [.int .i64 st4, .int .i64 mi4, .slice aQ nf4 cQ, .slice aE nE cE, .bool cl4] by rw [← hw11]; exact at_new w10 33 [.int .i64 st4, .int .i64 mi4, .slice aQ nf4 cQ, .slice aE nE cE, .bool cl4])
      have Hu11 := Hid.of (show Up w10 w11 by rw [← hw11]; exact (Up.refl w10).alloc _)
      have HP11 := Hid.of (HP10.out.up Hu11.out)
      have HF11 := Hid.of (HF10.out.up Hu11.out)
      have HB11 := Hid.of (HB10.out.up Hu11.out)
      have HG11 := Hid.of (HG10.out.up Hu11.out)
      have HC11 := Hid.of (HC10.out.up Hu11.out)
      have HW11 := Hid.of hw11
      clear hw11
      have p2 : (w10.alloc (.cells #[.int .i64 st4, .int .i64 mi4, .slice aQ nf4 cQ, .slice aE nE cE, .bool cl4] 33)).cell? ⟨w8.heap.size, 2, none⟩ = some (.slice aP nf3 cP) := by rw [HW11.out]; exact HP11.out.cell (i := 2) rfl
      go_wp2_with fail
      change Calls _ _ _ (w10.alloc (.cells #[.int .i64 st4, .int .i64 mi4, .slice aQ nf4 cQ, .slice aE nE cE, .bool cl4] 33)) _
      rw [HW11.out]
      clear p2
      have HV1 := Hid.of (fun (w2 : World) (hu : Up w11 w2) => Value_walk aP fs3 cP clN w2 (HF11.out.up hu) (by have := hmS.1; omega) (fun f hf => by have := (hmS.2 f hf).1; omega))
      have HV2 := Hid.of (fun (w2 : World) (hu : Up w11 w2) => Value_walk aP fs3 cP teN w2 (HF11.out.up hu) (by have := hmS.1; omega) (fun f hf => by have := (hmS.2 f hf).1; omega))
      rw [HN3.out] at HV1 HV2
      unfold clN at HV1
      unfold teN at HV2
      refine (HV1.out w11 (Up.refl _)).mono ?_
      rintro e w12 ⟨rfl, u12⟩
      have Hu12 := Hid.of u12
      have p2 : w12.cell? ⟨w8.heap.size, 2, none⟩ = some (.slice aP nf3 cP) := (HP11.out.up u12).cell (i := 2) rfl
      clear u12
      obtain ⟨y1, z1, hz1, hy1⟩ : ∃ (y1 : ByteArray) (z1 : Bool), vlR fs3 clN = .tuple #[.string y1, .bool z1] ∧ z1 = (fnd fs3 clN).isSome := by
        unfold vlR
        cases fnd fs3 clN with
        | none => exact ⟨_, _, rfl, rfl⟩
        | some f => exact ⟨_, _, rfl, rfl⟩
      obtain ⟨y2, z2', hz2, hy2⟩ : ∃ (y2 : ByteArray) (z2' : Bool), vlR fs3 teN = .tuple #[.string y2, .bool z2'] ∧ z2' = (fnd fs3 teN).isSome := by
        unfold vlR
        cases fnd fs3 teN with
        | none => exact ⟨_, _, rfl, rfl⟩
        | some f => exact ⟨_, _, rfl, rfl⟩
      have HY1 := Hid.of hy1
      have HY2 := Hid.of hy2
      clear hy1 hy2
      unfold clN at hz1
      unfold teN at hz2
      rw [hz1]
      rw [hz2] at HV2
      clear hz1 hz2
      dsimp only
      go_wp2_with fail
      refine (HV2.out w12 Hu12.out).mono ?_
      rintro e w13 ⟨rfl, u13⟩
      have Hu13 := Hid.of (Hu12.out.trans u13)
      have HU13 := Hid.of (HU11.out.trans Hu13.out)
      clear u13 p2 HV1 HV2
      dsimp only
      have HP13 := Hid.of (HP11.out.up Hu13.out)
      have HQ13 := Hid.of (HQ11.out.up Hu13.out)
      have HF13 := Hid.of (HF11.out.up Hu13.out)
      have HB13 := Hid.of (HB11.out.up Hu13.out)
      have HG13 := Hid.of (HG11.out.up Hu13.out)
      have HC13 := Hid.of (HC11.out.up Hu13.out)
      have HnS := Hid.of hmS.1
      clear hmS
      rcases hfS with ⟨g1, g2, g3, g4, g5⟩ | ⟨g1, g2⟩ | ⟨g1, g2, g3, g4⟩
      · have hz1 : z1 = false := by rw [HY1.out, g2]; rfl
        have hz2 : z2' = false := by rw [HY2.out, g3]; rfl
        subst hz1 hz2 g1
        rw [← HN.out] at g4
        have HG5 := Hid.of g5
        clear HY1 HY2 g2 g3 g5
        by_cases h4 : e4 = 0
        · have h4z : (e4 != 0) = false := by rw [h4]; rfl
          obtain ⟨hst, hfs⟩ := HG5.out h4
          subst hst hfs
          have hnf : nf4 = nf3 := by rw [← HN4.out, ← HN3.out]
          subst hnf
          clear h4 HG5
          have hst : (st4 == st4) = true := beq_self_eq_true _
          have k0 : w13.cell? ⟨w8.heap.size, 0, none⟩ = some (.int .i64 st4) := HP13.out.cell (i := 0) rfl
          have k2 : w13.cell? ⟨w8.heap.size, 2, none⟩ = some (.slice aP nf4 cP) := HP13.out.cell (i := 2) rfl
          have j0 : w13.cell? ⟨w10.heap.size, 0, none⟩ = some (.int .i64 st4) := HQ13.out.cell (i := 0) rfl
          have j2 : w13.cell? ⟨w10.heap.size, 2, none⟩ = some (.slice aQ nf4 cQ) := HQ13.out.cell (i := 2) rfl
          have HAk := Hid.of (alike_same aP aQ fs4 cP cQ nf4 HN4.out (by rw [← HN4.out]; exact HnS.out) w13 HF13.out HG13.out)
          go_wp2_with fail
          refine HAk.out.mono ?_
          rintro e w14 ⟨rfl, u14⟩
          have HU14 := Hid.of (HU13.out.trans u14)
          clear u14
          dsimp only
          go_wp2
          go_ret
          exact ⟨rfl, HU14.out⟩
        · have h4z : (e4 != 0) = true := by simpa using h4
          clear h4 HG5
          go_wp2
          go_ret
          exact ⟨rfl, HU13.out⟩
      · have h0 : (e3 == 0) = false := by rw [g1]; rfl
        have h1 : (e3 == 140) = true := by rw [g1]; rfl
        have h2 : (n3 == 0) = true := by rw [g2]; rfl
        clear g1 g2
        go_wp2
        go_ret
        exact ⟨rfl, HU13.out⟩
      · injection g3 with i1 i2 i3 i4 i5 i6 i7
        subst i1 i2 i3 i4 i5 i6 i7
        have hnf : nf4 = nf3 := by rw [← HN4.out, ← HN3.out]
        subst hnf
        rw [← HN.out] at g4
        have h1 : (e4 == 140) = false := by simpa using g2
        have q1 : (e4 == e4) = true := beq_self_eq_true _
        have q2 : (n4 == n4) = true := beq_self_eq_true _
        have HPr := Hid.of (pairs_same st4 mi4 fs4 nf4 cl4 aP aQ cP cQ (.slice aD nD cD) (.slice aE nE cE) b4 HN4.out (by rw [← HN4.out]; exact HnS.out) w13 HF13.out HG13.out HB13.out HC13.out)
        have HG1 := Hid.of g1
        clear g1 g2
        rcases (show (e4 == 0) = false ∨ ((e4 == 0) = true ∧ z1 = true) ∨ ((e4 == 0) = true ∧ z1 = false ∧ z2' = true) from by
          by_cases h0 : e4 = 0
          · right
            have h0z : (e4 == 0) = true := by rw [h0]; rfl
            rcases HG1.out h0 with h | h
            · exact .inl ⟨h0z, by rw [HY1.out]; exact h⟩
            · by_cases hz : z1 = true
              · exact .inl ⟨h0z, hz⟩
              · exact .inr ⟨h0z, by simpa using hz, by rw [HY2.out]; exact h⟩
          · exact .inl (by simpa using h0)) with h0 | ⟨h0, hz⟩ | ⟨h0, hz, hz'⟩
        · clear HG1 HY1 HY2
          go_wp2_with (with_reducible show wpList _ _ _ ({ dst := _, op := Op.load 33 _, type := _, pos := _, after := _, guard := _ } :: _) _ _; refine Shut.out ?_)
          show wpList _ _ _ _ _ _
          refine wpList_valG (.agg [.int .i64 st4, .int .i64 mi4, .slice aP nf4 cP, .slice aD nD cD, .bool cl4].toArray) (by kernel_rfl) (exec_load5 rfl rfl HP13.out.range) ?_
          simp only [Act.put, List.setIfInBounds_toArray, List.set_cons_zero, List.set_cons_succ]
          go_wp2_with (with_reducible show wpList _ _ _ ({ dst := _, op := Op.load 33 _, type := _, pos := _, after := _, guard := _ } :: _) _ _; refine Shut.out ?_)
          show wpList _ _ _ _ _ _
          refine wpList_valG (.agg [.int .i64 st4, .int .i64 mi4, .slice aQ nf4 cQ, .slice aE nE cE, .bool cl4].toArray) (by kernel_rfl) (exec_load5 rfl rfl HQ13.out.range) ?_
          simp only [Act.put, List.setIfInBounds_toArray, List.set_cons_zero, List.set_cons_succ]
          go_wp2_with fail
          refine HPr.out.mono ?_
          rintro e w14 ⟨rfl, u14⟩
          have HU14 := Hid.of (HU13.out.trans u14)
          clear u14
          dsimp only
          go_wp2
          go_ret
          exact ⟨rfl, HU14.out⟩
        · subst hz
          clear HG1 HY1 HY2
          go_wp2_with (with_reducible show wpList _ _ _ ({ dst := _, op := Op.load 33 _, type := _, pos := _, after := _, guard := _ } :: _) _ _; refine Shut.out ?_)
          show wpList _ _ _ _ _ _
          refine wpList_valG (.agg [.int .i64 st4, .int .i64 mi4, .slice aP nf4 cP, .slice aD nD cD, .bool cl4].toArray) (by kernel_rfl) (exec_load5 rfl rfl HP13.out.range) ?_
          simp only [Act.put, List.setIfInBounds_toArray, List.set_cons_zero, List.set_cons_succ]
          go_wp2_with (with_reducible show wpList _ _ _ ({ dst := _, op := Op.load 33 _, type := _, pos := _, after := _, guard := _ } :: _) _ _; refine Shut.out ?_)
          show wpList _ _ _ _ _ _
          refine wpList_valG (.agg [.int .i64 st4, .int .i64 mi4, .slice aQ nf4 cQ, .slice aE nE cE, .bool cl4].toArray) (by kernel_rfl) (exec_load5 rfl rfl HQ13.out.range) ?_
          simp only [Act.put, List.setIfInBounds_toArray, List.set_cons_zero, List.set_cons_succ]
          go_wp2_with fail
          refine HPr.out.mono ?_
          rintro e w14 ⟨rfl, u14⟩
          have HU14 := Hid.of (HU13.out.trans u14)
          clear u14
          dsimp only
          go_wp2
          go_ret
          exact ⟨rfl, HU14.out⟩
        · subst hz hz'
          clear HG1 HY1 HY2
          go_wp2_with (with_reducible show wpList _ _ _ ({ dst := _, op := Op.load 33 _, type := _, pos := _, after := _, guard := _ } :: _) _ _; refine Shut.out ?_)
          show wpList _ _ _ _ _ _
          refine wpList_valG (.agg [.int .i64 st4, .int .i64 mi4, .slice aP nf4 cP, .slice aD nD cD, .bool cl4].toArray) (by kernel_rfl) (exec_load5 rfl rfl HP13.out.range) ?_
          simp only [Act.put, List.setIfInBounds_toArray, List.set_cons_zero, List.set_cons_succ]
          go_wp2_with (with_reducible show wpList _ _ _ ({ dst := _, op := Op.load 33 _, type := _, pos := _, after := _, guard := _ } :: _) _ _; refine Shut.out ?_)
          show wpList _ _ _ _ _ _
          refine wpList_valG (.agg [.int .i64 st4, .int .i64 mi4, .slice aQ nf4 cQ, .slice aE nE cE, .bool cl4].toArray) (by kernel_rfl) (exec_load5 rfl rfl HQ13.out.range) ?_
          simp only [Act.put, List.setIfInBounds_toArray, List.set_cons_zero, List.set_cons_succ]
          go_wp2_with fail
          refine HPr.out.mono ?_
          rintro e w14 ⟨rfl, u14⟩
          have HU14 := Hid.of (HU13.out.trans u14)
          clear u14
          dsimp only
          go_wp2
          go_ret
          exact ⟨rfl, HU14.out⟩
end Go.Proofs.YtmhelmkninpaoaaGreatDoor
