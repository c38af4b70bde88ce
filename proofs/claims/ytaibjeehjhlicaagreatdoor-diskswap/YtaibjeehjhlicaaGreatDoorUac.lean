import Derived.Test.YtaibjeehjhlicaaGreatDoorUaa
namespace Go.Proofs.YtaibjeehjhlicaaGreatDoor
open Go.RowKit Go.Shelf TextNum ModNum
/-- what a comparison of texts says -/
theorem eq_of_b {x y : List UInt8} {b : Bool} (h : (x == y) = b) : (b = true → x = y) ∧ (b = false → ¬ x = y) := by
  subst h
  exact ⟨fun h => by simpa using h, fun h => by simpa using h⟩
set_option maxRecDepth 100000 in
set_option maxHeartbeats 16000000 in
theorem swap_walk (a : Option Addr) (os : List OP) (c : Nat) (vO vN vC : Value) (st : Int) (dO dN : List UInt8) (cs : List Int) (w : World) (hP : SCR w a os c) (hO : Sb w vO dO) (hN : Sb w vN dN) (hlO : dO.length ≤ 140737488355328) (hlN : dN.length ≤ 140737488355328) (hC : SI w vC cs) (hcl : cs.length ≤ 17592186044416) (hll : os.length ≤ 4611686018427387904) (hG : ML w) (hV : 0 < w.heap.size) :
    Calls Tryz.prog 4 #[.slice a os.length c, .agg #[vO, vN, .int .i64 st, vC]] w fun e w' => e = .returned (.bool true) ∧ Up w w' := by
  have HC := Hid.of hC
  obtain ⟨ac, cc, rfl, _⟩ := id hC
  obtain ⟨aO0, cO0, rfl, _⟩ := id hO
  obtain ⟨aN0, cN0, rfl, _⟩ := id hN
  have HB := Hid.of (at_new w 43 [.slice aO0 dO.length cO0, .slice aN0 dN.length cN0, .int .i64 st, .slice ac cs.length cc])
  have HU0 := Hid.of ((Up.refl w).alloc (.cells [.slice aO0 dO.length cO0, .slice aN0 dN.length cN0, .int .i64 st, .slice ac cs.length cc].toArray 43))
  have HSO := Hid.of (short_walk _ dO _ (hO.up HU0.out) hlO)
  have HP := Hid.of hP
  have HNd := Hid.of hN
  have HV := Hid.of (And.intro hG hV)
  have HBb := Hid.of (show w.heap.size < (w.alloc (.cells [.slice aO0 dO.length cO0, .slice aN0 dN.length cN0, .int .i64 st, .slice ac cs.length cc].toArray 43)).heap.size from lt_of_at HB.out)
  have c0 := HB.out.cell (i := 0) rfl
  clear hP hO hN hG hV hC
  go_enter Tryz.func4, Tryz.ntmps4
  go_wp2_with fail
  refine HSO.out.mono ?_
  rintro e w2 ⟨v5, rfl, o5, u2⟩
  have HO5 := Hid.of o5
  have HU2 := Hid.of (HU0.out.trans u2)
  have HB2 := Hid.of (HB.out.up u2)
  clear o5 u2 HSO c0 HU0 HB HBb
  generalize w.heap.size = bx at HB2 ⊢
  have c1 := HB2.out.cell (i := 1) rfl
  dsimp only
  have HSN := Hid.of (short_walk _ dN _ (HNd.out.up HU2.out) hlN)
  go_wp2_with fail
  refine HSN.out.mono ?_
  rintro e w3 ⟨v6, rfl, o6, u3⟩
  have HO6 := Hid.of (Ow.sb o6)
  have HO5b := Hid.of ((Ow.sb HO5.out).up u3)
  have HU3 := Hid.of (HU2.out.trans u3)
  have HB3 := Hid.of (HB2.out.up u3)
  have HVN := Hid.of (And.intro (HV.out.1.up HU3.out) (Nat.lt_of_lt_of_le HV.out.2 HU3.out.size))
  clear u3 o6 HSN c1 HB2 HU2 HO5 HNd HV
  obtain ⟨old, hold⟩ : ∃ old, dO.take 1048576 = old := ⟨_, rfl⟩
  obtain ⟨now, hnow⟩ : ∃ now, dN.take 1048576 = now := ⟨_, rfl⟩
  have hlo : old.length ≤ 1048576 := by rw [← hold, List.length_take]; omega
  have hln : now.length ≤ 1048576 := by rw [← hnow, List.length_take]; omega
  rw [hold] at HO5b
  rw [hnow] at HO6
  clear hold hnow
  obtain ⟨aO, cO, hv5, _⟩ := id HO5b.out
  obtain ⟨aN, cN, hv6, _⟩ := id HO6.out
  rw [hv5] at HO5b ⊢
  rw [hv6] at HO6
  subst hv6
  clear hv5
  dsimp only
  have HBe := Hid.of (begun_walk a os c w3 (HP.out.up HU3.out) hll HVN.out.1 HVN.out.2)
  go_wp2_with fail
  refine HBe.out.mono ?_
  rintro e w4 ⟨D, s, rfl, b4⟩
  have HB4 := Hid.of b4
  clear b4 HBe
  have hpn : ∀ w', (binOp .eql 24 (.pointer (some ⟨D, 0, none⟩)) (.pointer none)).run Tryz.prog w' = .ok (.bool false) w' := fun w' => by kernel_rfl
  dsimp only
  have HH := Hid.of (head_walk w4 HB4.out.bj.ok.ml (by have := HVN.out.2; have := HB4.out.bj.up.size; omega))
  go_wp2_with fail
  refine HH.out.mono ?_
  rintro e w5 ⟨rfl, u5⟩
  have HB5 := Hid.of (HB4.out.upTo u5)
  clear u5 HH HB4
  dsimp only
  have HF := Hid.of (Fail_ok 0 124 w5 HB5.out.bj.ok HB5.out.live (by decide) (by omega))
  go_wp2_with fail
  refine HF.out.mono ?_
  rintro e w6 ⟨rfl, k6, f6⟩
  have HB6 := Hid.of (show BG w3 w6 D 601 200 (faS s 0 124) ∧ (faS s 0 124).unt = 0 from ⟨⟨HB5.out.bj.fail k6 f6, HB5.out.live, by show (0 : Int).toNat ≤ _; decide, by show (124 : Int) ≠ 125; decide, HB5.out.room⟩, rfl⟩)
  clear k6 f6 HF HB5 hpn
  generalize faS s 0 124 = t0 at *
  dsimp only
  have H0 := Hid.of (show ownE 3 hdN hdN 0 ([] : List UInt8).length t0 = 0 from by rw [own3]; unfold nmE; rw [if_pos hdN_nm])
  have HCa := Create_all hdN hdN 0 [] w6 HB6.out.1.bj.ok HB6.out.1.unt (by omega)
  rw [er_ok HB6.out.1.live H0.out (fau_zero HB6.out.2)] at HCa
  have HCC := Hid.of HCa
  clear HCa
  go_wp2_with fail
  refine HCC.out.mono ?_
  rintro e w7 ⟨rfl, t1, a7, p7⟩
  obtain ⟨b7, n7, e7⟩ := HB6.out.1.did HB6.out.2 a7 p7 H0.out (by decide)
  have HB7 := Hid.of (show BG w3 w7 D 604 201 t1 ∧ t1.unt = 0 ∧ Has t1 hdN.data.toList [] false from ⟨b7, n7, Has.cr e7⟩)
  clear a7 p7 b7 n7 e7 HCC H0 HB6
  dsimp only
  have HCo := Hid.of (copied_walk (.slice aO old.length cO) old w7 (HO5b.out.up HB7.out.1.bj.up) (by omega))
  go_wp2_with fail
  refine HCo.out.mono ?_
  rintro e w8 ⟨v8, rfl, o8, u8⟩
  obtain ⟨a8, c8, hv8⟩ := row_len o8
  subst hv8
  have HO8 := Hid.of o8
  have HB8 := Hid.of (show BG w3 w8 D 604 201 t1 ∧ t1.unt = 0 ∧ Has t1 hdN.data.toList [] false from ⟨HB7.out.1.upTo u8, HB7.out.2⟩)
  have HD8 := Hid.of (show (Value.slice a8 old.length c8).ownBlock ≠ some D from fun e => by
    have h1 := (World.ownsRow.lt o8 D e).1
    have h2 := lt_of_at HB7.out.1.bj.ok.disk
    omega)
  clear o8 u8 HCo HB7
  dsimp only
  have H0 := Hid.of (show ownE 4 hdN hdN 0 old.length t1 = 0 from by rw [own4, if_pos (HB8.out.2.2.lives HB8.out.1.bj.ok.nms)]; exact wrF_room HB8.out.1.bj.iv HB8.out.1.room (by omega) hlo)
  have HCa := Write_all hdN hdN 0 (.slice a8 old.length c8) old w8 HB8.out.1.bj.ok HB8.out.1.unt (by omega) (Ow.sb HO8.out) HD8.out hlo
  rw [er_ok HB8.out.1.live H0.out (fau_zero HB8.out.2.1)] at HCa
  have HCC := Hid.of HCa
  clear HCa
  go_wp2_with fail
  refine HCC.out.mono ?_
  rintro e w9 ⟨rfl, t2, a9, p9⟩
  obtain ⟨b9, n9, e9⟩ := HB8.out.1.did HB8.out.2.1 a9 p9 H0.out hlo
  have HB9 := Hid.of (show BG w3 w9 D 607 202 t2 ∧ t2.unt = 0 ∧ Has t2 hdN.data.toList old false from ⟨b9, n9, by
    have h3 := Has.wr (s := acS t1) HB8.out.1.bj.ok.nD e9 HB8.out.2.2
    by_cases hd : old = []
    · rw [if_pos hd] at h3; rw [hd]; exact h3
    · rw [if_neg hd, show Go.Proofs.YtaibjeehjhlicaaGreatDoor.wr [] (Int.toNat 0) old = old from wr_nil old] at h3
      exact h3⟩)
  clear a9 p9 b9 n9 e9 HCC H0 HB8 HO8 HD8
  dsimp only
  have H0 := Hid.of (show ownE 5 hdN hdN 0 ([] : List UInt8).length t2 = 0 from by rw [own5]; exact HB9.out.2.2.lives HB9.out.1.bj.ok.nms)
  have HCa := Sync_all hdN hdN 0 [] w9 HB9.out.1.bj.ok HB9.out.1.unt (by omega) HB9.out.1.bj.iv.ly
  rw [er_ok HB9.out.1.live H0.out (fau_zero HB9.out.2.1)] at HCa
  have HCC := Hid.of HCa
  clear HCa
  go_wp2_with fail
  refine HCC.out.mono ?_
  rintro e w10 ⟨rfl, t3, a10, p10⟩
  obtain ⟨b10, n10, e10⟩ := HB9.out.1.did HB9.out.2.1 a10 p10 H0.out (by decide)
  have HB10 := Hid.of (show BG w3 w10 D 610 203 t3 ∧ t3.unt = 0 ∧ Has t3 hdN.data.toList old true from ⟨b10, n10, Has.sy (s := acS t2) HB9.out.1.bj.ok.nD HB9.out.1.bj.iv.ly e10 HB9.out.2.2⟩)
  clear a10 p10 b10 n10 e10 HCC H0 HB9
  dsimp only
  have H0 := Hid.of (show ownE 6 hdN hdN 0 ([] : List UInt8).length t3 = 0 from own6 _ _ _ _ _)
  have HCa := SyncNames_all hdN hdN 0 [] w10 HB10.out.1.bj.ok HB10.out.1.unt (by omega) HB10.out.1.bj.iv.cw (by have := HB10.out.1.bj.iv.n0; omega)
  rw [er_ok HB10.out.1.live H0.out (fau_zero HB10.out.2.1)] at HCa
  have HCC := Hid.of HCa
  clear HCa
  go_wp2_with fail
  refine HCC.out.mono ?_
  rintro e w11 ⟨rfl, t4, a11, p11⟩
  obtain ⟨b11, n11, e11⟩ := HB10.out.1.did HB10.out.2.1 a11 p11 H0.out (by decide)
  have HB11 := Hid.of (show BG w3 w11 D 613 204 t4 ∧ QS old now 0 t4 from ⟨b11, .inl ⟨rfl, Settled.sn (s := acS t3) (HB10.out.1.bj.iv.set (t3.acts + 1) (t3.unt - 1) t3.flt t3.dead).cw e11, Has.sn e11 HB10.out.2.2⟩⟩)
  clear a11 p11 b11 n11 e11 HCC H0 HB10
  have HBx := Hid.of (HB3.out.up HB11.out.1.bj.up)
  have c2 := HBx.out.cell (i := 2) rfl
  dsimp only
  go_wp2_with fail
  refine (within_gen st 6 (by omega) w11).mono ?_
  rintro e w12 ⟨rfl, h12⟩
  obtain rfl := h12.symm
  clear h12
  obtain ⟨n, hn⟩ : ∃ n, (st % ((6 : Nat) + 1 : Int)).toNat = n := ⟨_, rfl⟩
  have hn6 : n ≤ 6 := by omega
  rw [hn]
  clear hn
  dsimp only
  have HF := Hid.of (Fail_ok (n : Int) 125 w11 HB11.out.1.bj.ok HB11.out.1.live (by decide) (by omega))
  go_wp2_with fail
  refine HF.out.mono ?_
  rintro e w12 ⟨rfl, k12, f12⟩
  have HW12 := Hid.of (show BJ w3 w12 D 614 204 (faS t4 (n : Int) 125) ∧ SW old now n 0 (faS t4 (n : Int) 125) from ⟨HB11.out.1.bj.fail k12 f12, ⟨by
    show t4.dead = _
    rw [HB11.out.1.live]
    exact (decide_eq_false (fun h => by omega)).symm, fun _ => ⟨by show (n : Int).toNat = n - 0; omega, rfl⟩, by
    have h5 : (if n = 0 then 0 else min 0 n) = 0 := by split <;> omega
    rw [h5]
    exact HB11.out.2.set _ _ _ _, by show (n : Int).toNat ≤ 6; omega, HB11.out.1.room⟩⟩)
  clear k12 f12 HF HB11 c2
  generalize faS t4 (n : Int) 125 = r0 at *
  dsimp only
  have HCa := Create_all hnN hnN 0 [] w12 HW12.out.1.ok (by have := HW12.out.2.unt; omega) (by omega)
  go_wp2_with fail
  refine HCa.mono ?_
  rintro e w13 ⟨rfl, r1, ax, px⟩
  obtain ⟨ex, sx⟩ := HW12.out.2.step px (fun hd => by rw [own3]; unfold nmE; rw [if_pos hnN_nm]) (fun hq t e => QS.cr (s := acS r0) HW12.out.1.ok.nD (hq.set _ _ _ _) e)
  have HW13 := Hid.of (show BJ w3 w13 D 617 205 r1 ∧ SW old now n 1 r1 from ⟨HW12.out.1.stp ax px (by decide), sx⟩)
  rw [ex]
  clear ax px ex sx
  dsimp only
  have HCo := Hid.of (copied_walk (.slice aN now.length cN) now w13 (HO6.out.up HW13.out.1.up) (by omega))
  go_wp2_with fail
  refine HCo.out.mono ?_
  rintro e w14 ⟨v14, rfl, o14, u14⟩
  obtain ⟨a14, c14, hv14⟩ := row_len o14
  subst hv14
  have HO14 := Hid.of o14
  have HW14 := Hid.of (show BJ w3 w14 D 617 205 r1 ∧ SW old now n 1 r1 from ⟨HW13.out.1.upTo u14, HW13.out.2⟩)
  have HD14 := Hid.of (show (Value.slice a14 now.length c14).ownBlock ≠ some D from fun e => by
    have h1 := (World.ownsRow.lt o14 D e).1
    have h2 := lt_of_at HW13.out.1.ok.disk
    omega)
  clear o14 u14 HCo HW12
  dsimp only
  have HCa := Write_all hnN hnN 0 (.slice a14 now.length c14) now w14 HW14.out.1.ok (by have := HW14.out.2.unt; omega) (by omega) (Ow.sb HO14.out) HD14.out hln
  go_wp2_with fail
  refine HCa.mono ?_
  rintro e w15 ⟨rfl, r2, ax, px⟩
  obtain ⟨ex, sx⟩ := HW14.out.2.step px (fun hd => by obtain ⟨xs, b, hh⟩ := HW14.out.2.hasn hd (by omega); rw [own4, if_pos (hh.lives HW14.out.1.ok.nms)]; exact wrF_room HW14.out.1.iv HW14.out.2.room (by omega) hln) (fun hq t e => QS.wr (s := acS r1) HW14.out.1.ok.nD (hq.set _ _ _ _) e)
  have HW15 := Hid.of (show BJ w3 w15 D 620 206 r2 ∧ SW old now n 2 r2 from ⟨HW14.out.1.stp ax px hln, sx⟩)
  rw [ex]
  clear ax px ex sx HO14 HD14 HW13
  dsimp only
  have HCa := Sync_all hnN hnN 0 [] w15 HW15.out.1.ok (by have := HW15.out.2.unt; omega) (by omega) HW15.out.1.iv.ly
  go_wp2_with fail
  refine HCa.mono ?_
  rintro e w16 ⟨rfl, r3, ax, px⟩
  obtain ⟨ex, sx⟩ := HW15.out.2.step px (fun hd => by obtain ⟨xs, b, hh⟩ := HW15.out.2.hasn hd (by omega); rw [own5]; exact hh.lives HW15.out.1.ok.nms) (fun hq t e => QS.sy (s := acS r2) HW15.out.1.ok.nD HW15.out.1.iv.ly (hq.set _ _ _ _) e)
  have HW16 := Hid.of (show BJ w3 w16 D 623 207 r3 ∧ SW old now n 3 r3 from ⟨HW15.out.1.stp ax px (by decide), sx⟩)
  rw [ex]
  clear ax px ex sx HW14
  dsimp only
  have HCa := Rename_all hnN hdN 0 [] w16 HW16.out.1.ok (by have := HW16.out.2.unt; omega) (by omega)
  go_wp2_with fail
  refine HCa.mono ?_
  rintro e w17 ⟨rfl, r4, ax, px⟩
  obtain ⟨ex, sx⟩ := HW16.out.2.step px (fun hd => by obtain ⟨xs, b, hh⟩ := HW16.out.2.hasn hd (by omega); rw [own7, if_pos (by unfold nmE; rw [if_pos hdN_nm])]; exact hh.lives HW16.out.1.ok.nms) (fun hq t e => QS.rn (s := acS r3) HW16.out.1.ok.nD (HW16.out.1.iv.set (r3.acts + 1) (r3.unt - 1) r3.flt r3.dead).cw (hq.set _ _ _ _) e)
  have HW17 := Hid.of (show BJ w3 w17 D 626 208 r4 ∧ SW old now n 4 r4 from ⟨HW16.out.1.stp ax px (by decide), sx⟩)
  rw [ex]
  clear ax px ex sx HW15
  dsimp only
  have HCa := SyncNames_all hnN hnN 0 [] w17 HW17.out.1.ok (by have := HW17.out.2.unt; omega) (by omega) HW17.out.1.iv.cw (by have := HW17.out.1.iv.n0; omega)
  go_wp2_with fail
  refine HCa.mono ?_
  rintro e w18 ⟨rfl, r5, ax, px⟩
  obtain ⟨ex, sx⟩ := HW17.out.2.step px (fun hd => own6 _ _ _ _ _) (fun hq t e => QS.sn (s := acS r4) (HW17.out.1.iv.set (r4.acts + 1) (r4.unt - 1) r4.flt r4.dead).cw (hq.set _ _ _ _) e)
  have HW18 := Hid.of (show BJ w3 w18 D 629 209 r5 ∧ SW old now n 5 r5 from ⟨HW17.out.1.stp ax px (by decide), sx⟩)
  rw [ex]
  clear ax px ex sx HW16
  dsimp only
  have hn7 : n = 0 ∨ n = 1 ∨ n = 2 ∨ n = 3 ∨ n = 4 ∨ n = 5 ∨ n = 6 := by omega
  clear hn6
  rcases hn7 with rfl | rfl | rfl | rfl | rfl | rfl | rfl
  · rw [show sw 0 (0 + 1) = 0 by decide, show sw 0 (1 + 1) = 0 by decide, show sw 0 (2 + 1) = 0 by decide, show sw 0 (3 + 1) = 0 by decide, show sw 0 (4 + 1) = 0 by decide]
    have HQ := Hid.of (show QS old now 5 r5 from HW18.out.2.q)
    have c3 := (HB3.out.up HW18.out.1.up).cell (i := 3) rfl
    have HAf := Hid.of (after_gen _ D _ 2097152 r5 (.slice ac cs.length cc) cs w18 HW18.out.1.ok (HC.out.up (HU3.out.trans HW18.out.1.up)) (HW18.out.1.iv.cf (by omega)) (by have := HW18.out.1.iv.n0; omega) hcl (by omega))
    go_wp2_with fail
    refine HAf.out.mono ?_
    rintro e w19 ⟨a19, fs, c1, gs, ws, rfl, o19, f19, k19, l19, q19⟩
    obtain ⟨xx, hx1, hx2, hx3, hx4⟩ := HQ.out.found (by decide) l19 HW18.out.1.ok.nD
    have HMem := Hid.of (show (hdN.data.toList, xx) ∈ fs.map pr by rw [q19]; exact hx1)
    have HNd := Hid.of (show ((fs.map pr).map Prod.fst).Nodup by rw [q19]; exact srF_nd l19.ndl)
    have HFs := Hid.of o19
    obtain ⟨m, hm⟩ : ∃ m, fs.length = m := ⟨_, rfl⟩
    have HM := Hid.of hm
    have hcap := o19.fsl.cap
    rw [hm] at hcap
    rw [hm]
    have hmB : m ≤ 1000 := by
      have h5 := congrArg List.length q19
      rw [List.length_map, (srF_perm l19.ndl).length_eq, lfs_len, hm] at h5
      have h6 := l19.len (HW18.out.1.iv.cf (by omega))
      have h7 := HW18.out.1.iv.cnt
      omega
    have HUp := Hid.of (up_disk (s := r5) (HU3.out.trans HW18.out.1.up) (fun k hk => Nat.le_trans HU3.out.size (HW18.out.1.lo k hk)) (f19.weak (fun _ hb => hb ▸ .inl rfl)))
    have HUw := Hid.of (up_disk (s := r5) HW18.out.1.up HW18.out.1.lo (f19.weak (fun _ hb => hb ▸ .inl rfl)))
    have HWO := Hid.of (HO5b.out.up HUw.out)
    have HWN := Hid.of (HO6.out.up HUw.out)
    obtain ⟨qO, hqO⟩ : ∃ q, (xx == old) = q := ⟨_, rfl⟩
    obtain ⟨qN, hqN⟩ : ∃ q, (xx == now) = q := ⟨_, rfl⟩
    have HQO := Hid.of hqO
    have HQN := Hid.of hqN
    have hb : true = qN := by
      rw [← hqN, hx3 rfl, beq_self_eq_true]
    clear hqO hqN hx1 hx2 hx3 hx4 hm o19 f19 k19 l19 q19 HAf HQ c3
    dsimp only
    subst hb
    go_wp2
    go_loopw [17] (fun v17 wr => ∃ i : Nat, v17 = .int .i64 (i : Int) ∧ i ≤ m ∧ Hid (Up w19 wr ∧ ∀ j (h : j < fs.length), j < i → fs[j].nm ≠ hdN)) (fun v17 _ => m - (intOf v17).toNat)
    case atStart => exact ⟨0, rfl, by omega, Hid.of ⟨Up.refl _, fun j _ h => by omega⟩⟩
    case round =>
      obtain ⟨i, rfl, hi, hU⟩ := hrel
      have HU := Hid.of hU.out.1
      have HNe := Hid.of hU.out.2
      clear hU
      by_cases hlt : i < m
      · have hz : (i : Int) < (m : Int) := by omega
        have hf : i < fs.length := by rw [HM.out]; exact hlt
        obtain ⟨b1, o1, rfl, k1, k2⟩ := HFs.out.fsl.cells i hf
        have HS0 := Hid.of (HFs.out.fsl.sb _ (List.getElem_mem hf))
        obtain ⟨g, hg⟩ : ∃ g, fs[i] = g := ⟨_, rfl⟩
        have HNx := Hid.of (show ∀ j (h : j < fs.length), j < i + 1 → fs[i].nm ≠ hdN → fs[j].nm ≠ hdN from fun j h hj hne => by
          rcases Nat.lt_or_ge j i with h5 | h5
          · exact HNe.out j h h5
          · obtain rfl : j = i := by omega
            exact hne)
        have HXx := Hid.of (show fs[i].nm = hdN → fs[i].ds = xx from fun he => by
          have h5 : (hdN.data.toList, fs[i].ds) ∈ fs.map pr := List.mem_map.2 ⟨fs[i], List.getElem_mem hf, by unfold pr; rw [he]⟩
          exact nd_val HNd.out h5 HMem.out)
        rw [hg] at k1 k2 HS0 HXx HNx
        have k1 := HU.out.cell k1
        by_cases he : g.nm = hdN
        · have hx := HXx.out he
          rw [he] at k1
          rw [hx] at HS0
          obtain ⟨ak, ck, hgv, _⟩ := id HS0.out
          rw [hgv] at k2 HS0
          have HK2 := Hid.of k2
          have HS1 := Hid.of HS0.out
          clear k2 hgv hx hg HXx HNx HNe HS0
          go_wp2
          refine wp_region_held_drew (S := fun w2 => Up wr w2) (by kernel_rfl) (Up.refl _).drew (fun hS => ?_)
          refine wpAnyH_take (i := 0) (oi := { dst := some 125, op := Go.Op.move (Go.Operand.tmp 15), type := 32, pos := "outright.go:144", after := #[], guard := none }) (v := .slice (some ⟨b1, o1, none⟩) m c1) rfl (by kernel_rfl) (by kernel_rfl) (by kernel_rfl) (fun _ _ _ h => h) (Or.inl ⟨by kernel_rfl, ?_⟩) hS ?_
          · intro w5 hSw
            clear hSw hS
            go_simp
          simp only [Act.put, List.setIfInBounds_toArray, List.set_cons_zero, List.set_cons_succ]
          refine wpAnyH_take (i := 1) (oi := { dst := some 126, op := Go.Op.move (Go.Operand.tmp 17), type := 3, pos := "outright.go:144", after := #[], guard := none }) (v := .int .i64 (i : Int)) rfl (by kernel_rfl) (by kernel_rfl) (by kernel_rfl) (fun _ _ _ h => h) (Or.inl ⟨by kernel_rfl, ?_⟩) hS ?_
          · intro w5 hSw
            clear hSw hS
            go_simp
          simp only [Act.put, List.setIfInBounds_toArray, List.set_cons_zero, List.set_cons_succ]
          refine wpAnyH_take (i := 2) (oi := { dst := some 127, op := Go.Op.indexAddr 32 (Go.Operand.tmp 125) (Go.Operand.tmp 126), type := 0, pos := "outright.go:144", after := #[{ on := 0, ground := Go.Ground.data }, { on := 1, ground := Go.Ground.data }], guard := none }) (v := .pointer (some ⟨b1, o1 + i * 2, none⟩)) rfl (by kernel_rfl) (by kernel_rfl) (by kernel_rfl) (fun _ _ _ h => h) (Or.inl ⟨by kernel_rfl, ?_⟩) hS ?_
          · intro w5 hSw
            clear hSw hS
            exact exec_idxFile i hlt rfl rfl rfl
          simp only [Act.put, List.setIfInBounds_toArray, List.set_cons_zero, List.set_cons_succ]
          refine wpAnyH_take (i := 3) (oi := { dst := some 128, op := Go.Op.fieldAddr 49 (Go.Operand.tmp 127) 1, type := 0, pos := "outright.go:144", after := #[{ on := 2, ground := Go.Ground.data }], guard := none }) (v := .pointer (some ⟨b1, o1 + i * 2 + 1, none⟩)) rfl (by kernel_rfl) (by kernel_rfl) (by kernel_rfl) (fun _ _ _ h => h) (Or.inl ⟨by kernel_rfl, ?_⟩) hS ?_
          · intro w5 hSw
            clear hSw hS
            go_simp
          simp only [Act.put, List.setIfInBounds_toArray, List.set_cons_zero, List.set_cons_succ]
          refine wpAnyH_take (i := 4) (oi := { dst := some 129, op := Go.Op.load 41 (Go.Operand.tmp 128), type := 41, pos := "outright.go:144", after := #[{ on := 3, ground := Go.Ground.data }], guard := none }) (v := .slice ak xx.length ck) rfl (by kernel_rfl) (by kernel_rfl) (by kernel_rfl) (fun _ _ _ h => h) (Or.inl ⟨by kernel_rfl, ?_⟩) hS ?_
          · intro w5 hSw
            have h0 := (HU.out.trans hSw).cell HK2.out
            clear hSw hS
            go_simp
          simp only [Act.put, List.setIfInBounds_toArray, List.set_cons_zero, List.set_cons_succ]
          refine wpAnyH_take (i := 5) (oi := { dst := some 130, op := Go.Op.convert 41 9 (Go.Operand.tmp 129), type := 9, pos := "outright.go:144", after := #[{ on := 4, ground := Go.Ground.data }], guard := none }) (v := .string ⟨xx.toArray⟩) rfl (by kernel_rfl) (by kernel_rfl) (by kernel_rfl) (fun _ _ _ h => h) (Or.inl ⟨by kernel_rfl, ?_⟩) hS ?_
          · intro w5 hSw
            have h0 := conv_sb2 (HS1.out.up (HU.out.trans hSw))
            clear hSw hS
            go_simp
          simp only [Act.put, List.setIfInBounds_toArray, List.set_cons_zero, List.set_cons_succ]
          refine wpAnyH_take (i := 6) (oi := { dst := some 131, op := Go.Op.move (Go.Operand.tmp 5), type := 41, pos := "outright.go:144", after := #[], guard := none }) (v := .slice aO old.length cO) rfl (by kernel_rfl) (by kernel_rfl) (by kernel_rfl) (fun _ _ _ h => h) (Or.inl ⟨by kernel_rfl, ?_⟩) hS ?_
          · intro w5 hSw
            clear hSw hS
            go_simp
          simp only [Act.put, List.setIfInBounds_toArray, List.set_cons_zero, List.set_cons_succ]
          refine wpAnyH_take (i := 7) (oi := { dst := some 132, op := Go.Op.convert 41 9 (Go.Operand.tmp 131), type := 9, pos := "outright.go:144", after := #[{ on := 6, ground := Go.Ground.data }], guard := none }) (v := .string ⟨old.toArray⟩) rfl (by kernel_rfl) (by kernel_rfl) (by kernel_rfl) (fun _ _ _ h => h) (Or.inl ⟨by kernel_rfl, ?_⟩) hS ?_
          · intro w5 hSw
            have h0 := conv_sb2 (HWO.out.up (HU.out.trans hSw))
            clear hSw hS
            go_simp
          simp only [Act.put, List.setIfInBounds_toArray, List.set_cons_zero, List.set_cons_succ]
          refine wpAnyH_take (i := 8) (oi := { dst := some 133, op := Go.Op.binOp Go.BinOp.eql 9 (Go.Operand.tmp 130) (Go.Operand.tmp 132) 9, type := 4, pos := "outright.go:144", after := #[{ on := 5, ground := Go.Ground.data }, { on := 7, ground := Go.Ground.data }], guard := none }) (v := .bool qO) rfl (by kernel_rfl) (by kernel_rfl) (by kernel_rfl) (fun _ _ _ h => h) (Or.inl ⟨by kernel_rfl, ?_⟩) hS ?_
          · intro w5 hSw
            have h0 := HQO.out
            have h1 := eq_of_b HQO.out
            clear hSw hS
            go_simp
          simp only [Act.put, List.setIfInBounds_toArray, List.set_cons_zero, List.set_cons_succ]
          refine wpAnyH_ready (rs := [9]) (by kernel_rfl) (by simp) ?_
          refine AllReadyH.cons (o := { dst := some 18, op := Go.Op.assign (Go.Operand.tmp 133), type := 4, pos := "outright.go:144", after := #[{ on := 8, ground := Go.Ground.data }, { on := 0, ground := Go.Ground.phase }, { on := 1, ground := Go.Ground.phase }, { on := 2, ground := Go.Ground.phase }, { on := 3, ground := Go.Ground.phase }, { on := 4, ground := Go.Ground.phase }, { on := 5, ground := Go.Ground.phase }, { on := 6, ground := Go.Ground.phase }, { on := 7, ground := Go.Ground.phase }, { on := 8, ground := Go.Ground.phase }], guard := none }) rfl (fun K hK => ?_) AllReadyH.nil
          rw [if_pos (by kernel_rfl)]
          go_simp
          refine hK.out _ _ hS (fun hS => ?_)
          clear hK K
          have HU2 := Hid.of (HU.out.trans hS)
          clear hS
          refine wpAnyH_done (by kernel_rfl) ?_ _
          go_wp2
          refine wp_region_held_drew (S := fun w2 => Up wr.drew w2) (by kernel_rfl) (Up.refl _).drew (fun hS => ?_)
          refine wpAnyH_take (i := 0) (oi := { dst := some 134, op := Go.Op.move (Go.Operand.tmp 15), type := 32, pos := "outright.go:145", after := #[], guard := none }) (v := .slice (some ⟨b1, o1, none⟩) m c1) rfl (by kernel_rfl) (by kernel_rfl) (by kernel_rfl) (fun _ _ _ h => h) (Or.inl ⟨by kernel_rfl, ?_⟩) hS ?_
          · intro w5 hSw
            clear hSw hS
            go_simp
          simp only [Act.put, List.setIfInBounds_toArray, List.set_cons_zero, List.set_cons_succ]
          refine wpAnyH_take (i := 1) (oi := { dst := some 135, op := Go.Op.move (Go.Operand.tmp 17), type := 3, pos := "outright.go:145", after := #[], guard := none }) (v := .int .i64 (i : Int)) rfl (by kernel_rfl) (by kernel_rfl) (by kernel_rfl) (fun _ _ _ h => h) (Or.inl ⟨by kernel_rfl, ?_⟩) hS ?_
          · intro w5 hSw
            clear hSw hS
            go_simp
          simp only [Act.put, List.setIfInBounds_toArray, List.set_cons_zero, List.set_cons_succ]
          refine wpAnyH_take (i := 2) (oi := { dst := some 136, op := Go.Op.indexAddr 32 (Go.Operand.tmp 134) (Go.Operand.tmp 135), type := 0, pos := "outright.go:145", after := #[{ on := 0, ground := Go.Ground.data }, { on := 1, ground := Go.Ground.data }], guard := none }) (v := .pointer (some ⟨b1, o1 + i * 2, none⟩)) rfl (by kernel_rfl) (by kernel_rfl) (by kernel_rfl) (fun _ _ _ h => h) (Or.inl ⟨by kernel_rfl, ?_⟩) hS ?_
          · intro w5 hSw
            clear hSw hS
            exact exec_idxFile i hlt rfl rfl rfl
          simp only [Act.put, List.setIfInBounds_toArray, List.set_cons_zero, List.set_cons_succ]
          refine wpAnyH_take (i := 3) (oi := { dst := some 137, op := Go.Op.fieldAddr 49 (Go.Operand.tmp 136) 1, type := 0, pos := "outright.go:145", after := #[{ on := 2, ground := Go.Ground.data }], guard := none }) (v := .pointer (some ⟨b1, o1 + i * 2 + 1, none⟩)) rfl (by kernel_rfl) (by kernel_rfl) (by kernel_rfl) (fun _ _ _ h => h) (Or.inl ⟨by kernel_rfl, ?_⟩) hS ?_
          · intro w5 hSw
            clear hSw hS
            go_simp
          simp only [Act.put, List.setIfInBounds_toArray, List.set_cons_zero, List.set_cons_succ]
          refine wpAnyH_take (i := 4) (oi := { dst := some 138, op := Go.Op.load 41 (Go.Operand.tmp 137), type := 41, pos := "outright.go:145", after := #[{ on := 3, ground := Go.Ground.data }], guard := none }) (v := .slice ak xx.length ck) rfl (by kernel_rfl) (by kernel_rfl) (by kernel_rfl) (fun _ _ _ h => h) (Or.inl ⟨by kernel_rfl, ?_⟩) hS ?_
          · intro w5 hSw
            have h0 := (HU2.out.trans hSw).cell HK2.out
            clear hSw hS
            go_simp
          simp only [Act.put, List.setIfInBounds_toArray, List.set_cons_zero, List.set_cons_succ]
          refine wpAnyH_take (i := 5) (oi := { dst := some 139, op := Go.Op.convert 41 9 (Go.Operand.tmp 138), type := 9, pos := "outright.go:145", after := #[{ on := 4, ground := Go.Ground.data }], guard := none }) (v := .string ⟨xx.toArray⟩) rfl (by kernel_rfl) (by kernel_rfl) (by kernel_rfl) (fun _ _ _ h => h) (Or.inl ⟨by kernel_rfl, ?_⟩) hS ?_
          · intro w5 hSw
            have h0 := conv_sb2 (HS1.out.up (HU2.out.trans hSw))
            clear hSw hS
            go_simp
          simp only [Act.put, List.setIfInBounds_toArray, List.set_cons_zero, List.set_cons_succ]
          refine wpAnyH_take (i := 6) (oi := { dst := some 140, op := Go.Op.move (Go.Operand.tmp 6), type := 41, pos := "outright.go:145", after := #[], guard := none }) (v := .slice aN now.length cN) rfl (by kernel_rfl) (by kernel_rfl) (by kernel_rfl) (fun _ _ _ h => h) (Or.inl ⟨by kernel_rfl, ?_⟩) hS ?_
          · intro w5 hSw
            clear hSw hS
            go_simp
          simp only [Act.put, List.setIfInBounds_toArray, List.set_cons_zero, List.set_cons_succ]
          refine wpAnyH_take (i := 7) (oi := { dst := some 141, op := Go.Op.convert 41 9 (Go.Operand.tmp 140), type := 9, pos := "outright.go:145", after := #[{ on := 6, ground := Go.Ground.data }], guard := none }) (v := .string ⟨now.toArray⟩) rfl (by kernel_rfl) (by kernel_rfl) (by kernel_rfl) (fun _ _ _ h => h) (Or.inl ⟨by kernel_rfl, ?_⟩) hS ?_
          · intro w5 hSw
            have h0 := conv_sb2 (HWN.out.up (HU2.out.trans hSw))
            clear hSw hS
            go_simp
          simp only [Act.put, List.setIfInBounds_toArray, List.set_cons_zero, List.set_cons_succ]
          refine wpAnyH_take (i := 8) (oi := { dst := some 142, op := Go.Op.binOp Go.BinOp.eql 9 (Go.Operand.tmp 139) (Go.Operand.tmp 141) 9, type := 4, pos := "outright.go:145", after := #[{ on := 5, ground := Go.Ground.data }, { on := 7, ground := Go.Ground.data }], guard := none }) (v := .bool true) rfl (by kernel_rfl) (by kernel_rfl) (by kernel_rfl) (fun _ _ _ h => h) (Or.inl ⟨by kernel_rfl, ?_⟩) hS ?_
          · intro w5 hSw
            have h0 := HQN.out
            have h1 := eq_of_b HQN.out
            clear hSw hS
            go_simp
          simp only [Act.put, List.setIfInBounds_toArray, List.set_cons_zero, List.set_cons_succ]
          refine wpAnyH_ready (rs := [9]) (by kernel_rfl) (by simp) ?_
          refine AllReadyH.cons (o := { dst := some 19, op := Go.Op.assign (Go.Operand.tmp 142), type := 4, pos := "outright.go:145", after := #[{ on := 8, ground := Go.Ground.data }, { on := 0, ground := Go.Ground.phase }, { on := 1, ground := Go.Ground.phase }, { on := 2, ground := Go.Ground.phase }, { on := 3, ground := Go.Ground.phase }, { on := 4, ground := Go.Ground.phase }, { on := 5, ground := Go.Ground.phase }, { on := 6, ground := Go.Ground.phase }, { on := 7, ground := Go.Ground.phase }, { on := 8, ground := Go.Ground.phase }], guard := none }) rfl (fun K hK => ?_) AllReadyH.nil
          rw [if_pos (by kernel_rfl)]
          go_simp
          refine hK.out _ _ hS (fun hS => ?_)
          clear hK K
          have HU3b := Hid.of (HU2.out.trans hS)
          clear hS
          refine wpAnyH_done (by kernel_rfl) ?_ _
          go_wp2
          go_ret
          exact ⟨rfl, (HUp.out.trans HU3b.out)⟩
        · have HE := Hid.of he
          obtain ⟨y, hy⟩ : ∃ y : List UInt8, g.nm = ⟨y.toArray⟩ := ⟨g.nm.data.toList, rfl⟩
          rw [hy] at k1
          have hq : (y == [104, 101, 97, 100]) = false := by
            rw [beq_eq_false_iff_ne]
            exact fun e => he (by rw [hy, e])
          clear he hy
          go_wp2
          go_roundw
          all_goals first
            | exact ⟨i + 1, by go_num, by omega, Hid.of ⟨HU.out, fun j h hj => HNx.out j h hj HE.out⟩⟩
            | (simp [intOf]; omega)
      · exfalso
        obtain ⟨g, hg, e⟩ := List.mem_map.1 HMem.out
        obtain ⟨j, hj, rfl⟩ := List.mem_iff_getElem.1 hg
        refine HNe.out j hj (by have := HM.out; omega) ?_
        exact ByteArray.ext (Array.toList_inj.1 (congrArg Prod.fst e))
  · rw [show sw 1 (0 + 1) = 125 by decide, show sw 1 (1 + 1) = 125 by decide, show sw 1 (2 + 1) = 125 by decide, show sw 1 (3 + 1) = 125 by decide, show sw 1 (4 + 1) = 125 by decide]
    have HQ := Hid.of (show QS old now 1 r5 from HW18.out.2.q)
    have c3 := (HB3.out.up HW18.out.1.up).cell (i := 3) rfl
    have HAf := Hid.of (after_gen _ D _ 2097152 r5 (.slice ac cs.length cc) cs w18 HW18.out.1.ok (HC.out.up (HU3.out.trans HW18.out.1.up)) (HW18.out.1.iv.cf (by omega)) (by have := HW18.out.1.iv.n0; omega) hcl (by omega))
    go_wp2_with fail
    refine HAf.out.mono ?_
    rintro e w19 ⟨a19, fs, c1, gs, ws, rfl, o19, f19, k19, l19, q19⟩
    obtain ⟨xx, hx1, hx2, hx3, hx4⟩ := HQ.out.found (by decide) l19 HW18.out.1.ok.nD
    have HMem := Hid.of (show (hdN.data.toList, xx) ∈ fs.map pr by rw [q19]; exact hx1)
    have HNd := Hid.of (show ((fs.map pr).map Prod.fst).Nodup by rw [q19]; exact srF_nd l19.ndl)
    have HFs := Hid.of o19
    obtain ⟨m, hm⟩ : ∃ m, fs.length = m := ⟨_, rfl⟩
    have HM := Hid.of hm
    have hcap := o19.fsl.cap
    rw [hm] at hcap
    rw [hm]
    have hmB : m ≤ 1000 := by
      have h5 := congrArg List.length q19
      rw [List.length_map, (srF_perm l19.ndl).length_eq, lfs_len, hm] at h5
      have h6 := l19.len (HW18.out.1.iv.cf (by omega))
      have h7 := HW18.out.1.iv.cnt
      omega
    have HUp := Hid.of (up_disk (s := r5) (HU3.out.trans HW18.out.1.up) (fun k hk => Nat.le_trans HU3.out.size (HW18.out.1.lo k hk)) (f19.weak (fun _ hb => hb ▸ .inl rfl)))
    have HUw := Hid.of (up_disk (s := r5) HW18.out.1.up HW18.out.1.lo (f19.weak (fun _ hb => hb ▸ .inl rfl)))
    have HWO := Hid.of (HO5b.out.up HUw.out)
    have HWN := Hid.of (HO6.out.up HUw.out)
    obtain ⟨qO, hqO⟩ : ∃ q, (xx == old) = q := ⟨_, rfl⟩
    obtain ⟨qN, hqN⟩ : ∃ q, (xx == now) = q := ⟨_, rfl⟩
    have HQO := Hid.of hqO
    have HQN := Hid.of hqN
    have hb : true = qO := by
      rw [← hqO, hx2 (by decide), beq_self_eq_true]
    clear hqO hqN hx1 hx2 hx3 hx4 hm o19 f19 k19 l19 q19 HAf HQ c3
    dsimp only
    subst hb
    go_wp2
    go_loopw [17] (fun v17 wr => ∃ i : Nat, v17 = .int .i64 (i : Int) ∧ i ≤ m ∧ Hid (Up w19 wr ∧ ∀ j (h : j < fs.length), j < i → fs[j].nm ≠ hdN)) (fun v17 _ => m - (intOf v17).toNat)
    case atStart => exact ⟨0, rfl, by omega, Hid.of ⟨Up.refl _, fun j _ h => by omega⟩⟩
    case round =>
      obtain ⟨i, rfl, hi, hU⟩ := hrel
      have HU := Hid.of hU.out.1
      have HNe := Hid.of hU.out.2
      clear hU
      by_cases hlt : i < m
      · have hz : (i : Int) < (m : Int) := by omega
        have hf : i < fs.length := by rw [HM.out]; exact hlt
        obtain ⟨b1, o1, rfl, k1, k2⟩ := HFs.out.fsl.cells i hf
        have HS0 := Hid.of (HFs.out.fsl.sb _ (List.getElem_mem hf))
        obtain ⟨g, hg⟩ : ∃ g, fs[i] = g := ⟨_, rfl⟩
        have HNx := Hid.of (show ∀ j (h : j < fs.length), j < i + 1 → fs[i].nm ≠ hdN → fs[j].nm ≠ hdN from fun j h hj hne => by
          rcases Nat.lt_or_ge j i with h5 | h5
          · exact HNe.out j h h5
          · obtain rfl : j = i := by omega
            exact hne)
        have HXx := Hid.of (show fs[i].nm = hdN → fs[i].ds = xx from fun he => by
          have h5 : (hdN.data.toList, fs[i].ds) ∈ fs.map pr := List.mem_map.2 ⟨fs[i], List.getElem_mem hf, by unfold pr; rw [he]⟩
          exact nd_val HNd.out h5 HMem.out)
        rw [hg] at k1 k2 HS0 HXx HNx
        have k1 := HU.out.cell k1
        by_cases he : g.nm = hdN
        · have hx := HXx.out he
          rw [he] at k1
          rw [hx] at HS0
          obtain ⟨ak, ck, hgv, _⟩ := id HS0.out
          rw [hgv] at k2 HS0
          have HK2 := Hid.of k2
          have HS1 := Hid.of HS0.out
          clear k2 hgv hx hg HXx HNx HNe HS0
          go_wp2
          refine wp_region_held_drew (S := fun w2 => Up wr w2) (by kernel_rfl) (Up.refl _).drew (fun hS => ?_)
          refine wpAnyH_take (i := 0) (oi := { dst := some 125, op := Go.Op.move (Go.Operand.tmp 15), type := 32, pos := "outright.go:144", after := #[], guard := none }) (v := .slice (some ⟨b1, o1, none⟩) m c1) rfl (by kernel_rfl) (by kernel_rfl) (by kernel_rfl) (fun _ _ _ h => h) (Or.inl ⟨by kernel_rfl, ?_⟩) hS ?_
          · intro w5 hSw
            clear hSw hS
            go_simp
          simp only [Act.put, List.setIfInBounds_toArray, List.set_cons_zero, List.set_cons_succ]
          refine wpAnyH_take (i := 1) (oi := { dst := some 126, op := Go.Op.move (Go.Operand.tmp 17), type := 3, pos := "outright.go:144", after := #[], guard := none }) (v := .int .i64 (i : Int)) rfl (by kernel_rfl) (by kernel_rfl) (by kernel_rfl) (fun _ _ _ h => h) (Or.inl ⟨by kernel_rfl, ?_⟩) hS ?_
          · intro w5 hSw
            clear hSw hS
            go_simp
          simp only [Act.put, List.setIfInBounds_toArray, List.set_cons_zero, List.set_cons_succ]
          refine wpAnyH_take (i := 2) (oi := { dst := some 127, op := Go.Op.indexAddr 32 (Go.Operand.tmp 125) (Go.Operand.tmp 126), type := 0, pos := "outright.go:144", after := #[{ on := 0, ground := Go.Ground.data }, { on := 1, ground := Go.Ground.data }], guard := none }) (v := .pointer (some ⟨b1, o1 + i * 2, none⟩)) rfl (by kernel_rfl) (by kernel_rfl) (by kernel_rfl) (fun _ _ _ h => h) (Or.inl ⟨by kernel_rfl, ?_⟩) hS ?_
          · intro w5 hSw
            clear hSw hS
            exact exec_idxFile i hlt rfl rfl rfl
          simp only [Act.put, List.setIfInBounds_toArray, List.set_cons_zero, List.set_cons_succ]
          refine wpAnyH_take (i := 3) (oi := { dst := some 128, op := Go.Op.fieldAddr 49 (Go.Operand.tmp 127) 1, type := 0, pos := "outright.go:144", after := #[{ on := 2, ground := Go.Ground.data }], guard := none }) (v := .pointer (some ⟨b1, o1 + i * 2 + 1, none⟩)) rfl (by kernel_rfl) (by kernel_rfl) (by kernel_rfl) (fun _ _ _ h => h) (Or.inl ⟨by kernel_rfl, ?_⟩) hS ?_
          · intro w5 hSw
            clear hSw hS
            go_simp
          simp only [Act.put, List.setIfInBounds_toArray, List.set_cons_zero, List.set_cons_succ]
          refine wpAnyH_take (i := 4) (oi := { dst := some 129, op := Go.Op.load 41 (Go.Operand.tmp 128), type := 41, pos := "outright.go:144", after := #[{ on := 3, ground := Go.Ground.data }], guard := none }) (v := .slice ak xx.length ck) rfl (by kernel_rfl) (by kernel_rfl) (by kernel_rfl) (fun _ _ _ h => h) (Or.inl ⟨by kernel_rfl, ?_⟩) hS ?_
          · intro w5 hSw
            have h0 := (HU.out.trans hSw).cell HK2.out
            clear hSw hS
            go_simp
          simp only [Act.put, List.setIfInBounds_toArray, List.set_cons_zero, List.set_cons_succ]
          refine wpAnyH_take (i := 5) (oi := { dst := some 130, op := Go.Op.convert 41 9 (Go.Operand.tmp 129), type := 9, pos := "outright.go:144", after := #[{ on := 4, ground := Go.Ground.data }], guard := none }) (v := .string ⟨xx.toArray⟩) rfl (by kernel_rfl) (by kernel_rfl) (by kernel_rfl) (fun _ _ _ h => h) (Or.inl ⟨by kernel_rfl, ?_⟩) hS ?_
          · intro w5 hSw
            have h0 := conv_sb2 (HS1.out.up (HU.out.trans hSw))
            clear hSw hS
            go_simp
          simp only [Act.put, List.setIfInBounds_toArray, List.set_cons_zero, List.set_cons_succ]
          refine wpAnyH_take (i := 6) (oi := { dst := some 131, op := Go.Op.move (Go.Operand.tmp 5), type := 41, pos := "outright.go:144", after := #[], guard := none }) (v := .slice aO old.length cO) rfl (by kernel_rfl) (by kernel_rfl) (by kernel_rfl) (fun _ _ _ h => h) (Or.inl ⟨by kernel_rfl, ?_⟩) hS ?_
          · intro w5 hSw
            clear hSw hS
            go_simp
          simp only [Act.put, List.setIfInBounds_toArray, List.set_cons_zero, List.set_cons_succ]
          refine wpAnyH_take (i := 7) (oi := { dst := some 132, op := Go.Op.convert 41 9 (Go.Operand.tmp 131), type := 9, pos := "outright.go:144", after := #[{ on := 6, ground := Go.Ground.data }], guard := none }) (v := .string ⟨old.toArray⟩) rfl (by kernel_rfl) (by kernel_rfl) (by kernel_rfl) (fun _ _ _ h => h) (Or.inl ⟨by kernel_rfl, ?_⟩) hS ?_
          · intro w5 hSw
            have h0 := conv_sb2 (HWO.out.up (HU.out.trans hSw))
            clear hSw hS
            go_simp
          simp only [Act.put, List.setIfInBounds_toArray, List.set_cons_zero, List.set_cons_succ]
          refine wpAnyH_take (i := 8) (oi := { dst := some 133, op := Go.Op.binOp Go.BinOp.eql 9 (Go.Operand.tmp 130) (Go.Operand.tmp 132) 9, type := 4, pos := "outright.go:144", after := #[{ on := 5, ground := Go.Ground.data }, { on := 7, ground := Go.Ground.data }], guard := none }) (v := .bool true) rfl (by kernel_rfl) (by kernel_rfl) (by kernel_rfl) (fun _ _ _ h => h) (Or.inl ⟨by kernel_rfl, ?_⟩) hS ?_
          · intro w5 hSw
            have h0 := HQO.out
            have h1 := eq_of_b HQO.out
            clear hSw hS
            go_simp
          simp only [Act.put, List.setIfInBounds_toArray, List.set_cons_zero, List.set_cons_succ]
          refine wpAnyH_ready (rs := [9]) (by kernel_rfl) (by simp) ?_
          refine AllReadyH.cons (o := { dst := some 18, op := Go.Op.assign (Go.Operand.tmp 133), type := 4, pos := "outright.go:144", after := #[{ on := 8, ground := Go.Ground.data }, { on := 0, ground := Go.Ground.phase }, { on := 1, ground := Go.Ground.phase }, { on := 2, ground := Go.Ground.phase }, { on := 3, ground := Go.Ground.phase }, { on := 4, ground := Go.Ground.phase }, { on := 5, ground := Go.Ground.phase }, { on := 6, ground := Go.Ground.phase }, { on := 7, ground := Go.Ground.phase }, { on := 8, ground := Go.Ground.phase }], guard := none }) rfl (fun K hK => ?_) AllReadyH.nil
          rw [if_pos (by kernel_rfl)]
          go_simp
          refine hK.out _ _ hS (fun hS => ?_)
          clear hK K
          have HU2 := Hid.of (HU.out.trans hS)
          clear hS
          refine wpAnyH_done (by kernel_rfl) ?_ _
          go_wp2
          refine wp_region_held_drew (S := fun w2 => Up wr.drew w2) (by kernel_rfl) (Up.refl _).drew (fun hS => ?_)
          refine wpAnyH_take (i := 0) (oi := { dst := some 134, op := Go.Op.move (Go.Operand.tmp 15), type := 32, pos := "outright.go:145", after := #[], guard := none }) (v := .slice (some ⟨b1, o1, none⟩) m c1) rfl (by kernel_rfl) (by kernel_rfl) (by kernel_rfl) (fun _ _ _ h => h) (Or.inl ⟨by kernel_rfl, ?_⟩) hS ?_
          · intro w5 hSw
            clear hSw hS
            go_simp
          simp only [Act.put, List.setIfInBounds_toArray, List.set_cons_zero, List.set_cons_succ]
          refine wpAnyH_take (i := 1) (oi := { dst := some 135, op := Go.Op.move (Go.Operand.tmp 17), type := 3, pos := "outright.go:145", after := #[], guard := none }) (v := .int .i64 (i : Int)) rfl (by kernel_rfl) (by kernel_rfl) (by kernel_rfl) (fun _ _ _ h => h) (Or.inl ⟨by kernel_rfl, ?_⟩) hS ?_
          · intro w5 hSw
            clear hSw hS
            go_simp
          simp only [Act.put, List.setIfInBounds_toArray, List.set_cons_zero, List.set_cons_succ]
          refine wpAnyH_take (i := 2) (oi := { dst := some 136, op := Go.Op.indexAddr 32 (Go.Operand.tmp 134) (Go.Operand.tmp 135), type := 0, pos := "outright.go:145", after := #[{ on := 0, ground := Go.Ground.data }, { on := 1, ground := Go.Ground.data }], guard := none }) (v := .pointer (some ⟨b1, o1 + i * 2, none⟩)) rfl (by kernel_rfl) (by kernel_rfl) (by kernel_rfl) (fun _ _ _ h => h) (Or.inl ⟨by kernel_rfl, ?_⟩) hS ?_
          · intro w5 hSw
            clear hSw hS
            exact exec_idxFile i hlt rfl rfl rfl
          simp only [Act.put, List.setIfInBounds_toArray, List.set_cons_zero, List.set_cons_succ]
          refine wpAnyH_take (i := 3) (oi := { dst := some 137, op := Go.Op.fieldAddr 49 (Go.Operand.tmp 136) 1, type := 0, pos := "outright.go:145", after := #[{ on := 2, ground := Go.Ground.data }], guard := none }) (v := .pointer (some ⟨b1, o1 + i * 2 + 1, none⟩)) rfl (by kernel_rfl) (by kernel_rfl) (by kernel_rfl) (fun _ _ _ h => h) (Or.inl ⟨by kernel_rfl, ?_⟩) hS ?_
          · intro w5 hSw
            clear hSw hS
            go_simp
          simp only [Act.put, List.setIfInBounds_toArray, List.set_cons_zero, List.set_cons_succ]
          refine wpAnyH_take (i := 4) (oi := { dst := some 138, op := Go.Op.load 41 (Go.Operand.tmp 137), type := 41, pos := "outright.go:145", after := #[{ on := 3, ground := Go.Ground.data }], guard := none }) (v := .slice ak xx.length ck) rfl (by kernel_rfl) (by kernel_rfl) (by kernel_rfl) (fun _ _ _ h => h) (Or.inl ⟨by kernel_rfl, ?_⟩) hS ?_
          · intro w5 hSw
            have h0 := (HU2.out.trans hSw).cell HK2.out
            clear hSw hS
            go_simp
          simp only [Act.put, List.setIfInBounds_toArray, List.set_cons_zero, List.set_cons_succ]
          refine wpAnyH_take (i := 5) (oi := { dst := some 139, op := Go.Op.convert 41 9 (Go.Operand.tmp 138), type := 9, pos := "outright.go:145", after := #[{ on := 4, ground := Go.Ground.data }], guard := none }) (v := .string ⟨xx.toArray⟩) rfl (by kernel_rfl) (by kernel_rfl) (by kernel_rfl) (fun _ _ _ h => h) (Or.inl ⟨by kernel_rfl, ?_⟩) hS ?_
          · intro w5 hSw
            have h0 := conv_sb2 (HS1.out.up (HU2.out.trans hSw))
            clear hSw hS
            go_simp
          simp only [Act.put, List.setIfInBounds_toArray, List.set_cons_zero, List.set_cons_succ]
          refine wpAnyH_take (i := 6) (oi := { dst := some 140, op := Go.Op.move (Go.Operand.tmp 6), type := 41, pos := "outright.go:145", after := #[], guard := none }) (v := .slice aN now.length cN) rfl (by kernel_rfl) (by kernel_rfl) (by kernel_rfl) (fun _ _ _ h => h) (Or.inl ⟨by kernel_rfl, ?_⟩) hS ?_
          · intro w5 hSw
            clear hSw hS
            go_simp
          simp only [Act.put, List.setIfInBounds_toArray, List.set_cons_zero, List.set_cons_succ]
          refine wpAnyH_take (i := 7) (oi := { dst := some 141, op := Go.Op.convert 41 9 (Go.Operand.tmp 140), type := 9, pos := "outright.go:145", after := #[{ on := 6, ground := Go.Ground.data }], guard := none }) (v := .string ⟨now.toArray⟩) rfl (by kernel_rfl) (by kernel_rfl) (by kernel_rfl) (fun _ _ _ h => h) (Or.inl ⟨by kernel_rfl, ?_⟩) hS ?_
          · intro w5 hSw
            have h0 := conv_sb2 (HWN.out.up (HU2.out.trans hSw))
            clear hSw hS
            go_simp
          simp only [Act.put, List.setIfInBounds_toArray, List.set_cons_zero, List.set_cons_succ]
          refine wpAnyH_take (i := 8) (oi := { dst := some 142, op := Go.Op.binOp Go.BinOp.eql 9 (Go.Operand.tmp 139) (Go.Operand.tmp 141) 9, type := 4, pos := "outright.go:145", after := #[{ on := 5, ground := Go.Ground.data }, { on := 7, ground := Go.Ground.data }], guard := none }) (v := .bool qN) rfl (by kernel_rfl) (by kernel_rfl) (by kernel_rfl) (fun _ _ _ h => h) (Or.inl ⟨by kernel_rfl, ?_⟩) hS ?_
          · intro w5 hSw
            have h0 := HQN.out
            have h1 := eq_of_b HQN.out
            clear hSw hS
            go_simp
          simp only [Act.put, List.setIfInBounds_toArray, List.set_cons_zero, List.set_cons_succ]
          refine wpAnyH_ready (rs := [9]) (by kernel_rfl) (by simp) ?_
          refine AllReadyH.cons (o := { dst := some 19, op := Go.Op.assign (Go.Operand.tmp 142), type := 4, pos := "outright.go:145", after := #[{ on := 8, ground := Go.Ground.data }, { on := 0, ground := Go.Ground.phase }, { on := 1, ground := Go.Ground.phase }, { on := 2, ground := Go.Ground.phase }, { on := 3, ground := Go.Ground.phase }, { on := 4, ground := Go.Ground.phase }, { on := 5, ground := Go.Ground.phase }, { on := 6, ground := Go.Ground.phase }, { on := 7, ground := Go.Ground.phase }, { on := 8, ground := Go.Ground.phase }], guard := none }) rfl (fun K hK => ?_) AllReadyH.nil
          rw [if_pos (by kernel_rfl)]
          go_simp
          refine hK.out _ _ hS (fun hS => ?_)
          clear hK K
          have HU3b := Hid.of (HU2.out.trans hS)
          clear hS
          refine wpAnyH_done (by kernel_rfl) ?_ _
          go_wp2
          go_ret
          exact ⟨rfl, (HUp.out.trans HU3b.out)⟩
        · have HE := Hid.of he
          obtain ⟨y, hy⟩ : ∃ y : List UInt8, g.nm = ⟨y.toArray⟩ := ⟨g.nm.data.toList, rfl⟩
          rw [hy] at k1
          have hq : (y == [104, 101, 97, 100]) = false := by
            rw [beq_eq_false_iff_ne]
            exact fun e => he (by rw [hy, e])
          clear he hy
          go_wp2
          go_roundw
          all_goals first
            | exact ⟨i + 1, by go_num, by omega, Hid.of ⟨HU.out, fun j h hj => HNx.out j h hj HE.out⟩⟩
            | (simp [intOf]; omega)
      · exfalso
        obtain ⟨g, hg, e⟩ := List.mem_map.1 HMem.out
        obtain ⟨j, hj, rfl⟩ := List.mem_iff_getElem.1 hg
        refine HNe.out j hj (by have := HM.out; omega) ?_
        exact ByteArray.ext (Array.toList_inj.1 (congrArg Prod.fst e))
  · rw [show sw 2 (0 + 1) = 0 by decide, show sw 2 (1 + 1) = 125 by decide, show sw 2 (2 + 1) = 125 by decide, show sw 2 (3 + 1) = 125 by decide, show sw 2 (4 + 1) = 125 by decide]
    have HQ := Hid.of (show QS old now 2 r5 from HW18.out.2.q)
    have c3 := (HB3.out.up HW18.out.1.up).cell (i := 3) rfl
    have HAf := Hid.of (after_gen _ D _ 2097152 r5 (.slice ac cs.length cc) cs w18 HW18.out.1.ok (HC.out.up (HU3.out.trans HW18.out.1.up)) (HW18.out.1.iv.cf (by omega)) (by have := HW18.out.1.iv.n0; omega) hcl (by omega))
    go_wp2_with fail
    refine HAf.out.mono ?_
    rintro e w19 ⟨a19, fs, c1, gs, ws, rfl, o19, f19, k19, l19, q19⟩
    obtain ⟨xx, hx1, hx2, hx3, hx4⟩ := HQ.out.found (by decide) l19 HW18.out.1.ok.nD
    have HMem := Hid.of (show (hdN.data.toList, xx) ∈ fs.map pr by rw [q19]; exact hx1)
    have HNd := Hid.of (show ((fs.map pr).map Prod.fst).Nodup by rw [q19]; exact srF_nd l19.ndl)
    have HFs := Hid.of o19
    obtain ⟨m, hm⟩ : ∃ m, fs.length = m := ⟨_, rfl⟩
    have HM := Hid.of hm
    have hcap := o19.fsl.cap
    rw [hm] at hcap
    rw [hm]
    have hmB : m ≤ 1000 := by
      have h5 := congrArg List.length q19
      rw [List.length_map, (srF_perm l19.ndl).length_eq, lfs_len, hm] at h5
      have h6 := l19.len (HW18.out.1.iv.cf (by omega))
      have h7 := HW18.out.1.iv.cnt
      omega
    have HUp := Hid.of (up_disk (s := r5) (HU3.out.trans HW18.out.1.up) (fun k hk => Nat.le_trans HU3.out.size (HW18.out.1.lo k hk)) (f19.weak (fun _ hb => hb ▸ .inl rfl)))
    have HUw := Hid.of (up_disk (s := r5) HW18.out.1.up HW18.out.1.lo (f19.weak (fun _ hb => hb ▸ .inl rfl)))
    have HWO := Hid.of (HO5b.out.up HUw.out)
    have HWN := Hid.of (HO6.out.up HUw.out)
    obtain ⟨qO, hqO⟩ : ∃ q, (xx == old) = q := ⟨_, rfl⟩
    obtain ⟨qN, hqN⟩ : ∃ q, (xx == now) = q := ⟨_, rfl⟩
    have HQO := Hid.of hqO
    have HQN := Hid.of hqN
    have hb : true = qO := by
      rw [← hqO, hx2 (by decide), beq_self_eq_true]
    clear hqO hqN hx1 hx2 hx3 hx4 hm o19 f19 k19 l19 q19 HAf HQ c3
    dsimp only
    subst hb
    go_wp2
    go_loopw [17] (fun v17 wr => ∃ i : Nat, v17 = .int .i64 (i : Int) ∧ i ≤ m ∧ Hid (Up w19 wr ∧ ∀ j (h : j < fs.length), j < i → fs[j].nm ≠ hdN)) (fun v17 _ => m - (intOf v17).toNat)
    case atStart => exact ⟨0, rfl, by omega, Hid.of ⟨Up.refl _, fun j _ h => by omega⟩⟩
    case round =>
      obtain ⟨i, rfl, hi, hU⟩ := hrel
      have HU := Hid.of hU.out.1
      have HNe := Hid.of hU.out.2
      clear hU
      by_cases hlt : i < m
      · have hz : (i : Int) < (m : Int) := by omega
        have hf : i < fs.length := by rw [HM.out]; exact hlt
        obtain ⟨b1, o1, rfl, k1, k2⟩ := HFs.out.fsl.cells i hf
        have HS0 := Hid.of (HFs.out.fsl.sb _ (List.getElem_mem hf))
        obtain ⟨g, hg⟩ : ∃ g, fs[i] = g := ⟨_, rfl⟩
        have HNx := Hid.of (show ∀ j (h : j < fs.length), j < i + 1 → fs[i].nm ≠ hdN → fs[j].nm ≠ hdN from fun j h hj hne => by
          rcases Nat.lt_or_ge j i with h5 | h5
          · exact HNe.out j h h5
          · obtain rfl : j = i := by omega
            exact hne)
        have HXx := Hid.of (show fs[i].nm = hdN → fs[i].ds = xx from fun he => by
          have h5 : (hdN.data.toList, fs[i].ds) ∈ fs.map pr := List.mem_map.2 ⟨fs[i], List.getElem_mem hf, by unfold pr; rw [he]⟩
          exact nd_val HNd.out h5 HMem.out)
        rw [hg] at k1 k2 HS0 HXx HNx
        have k1 := HU.out.cell k1
        by_cases he : g.nm = hdN
        · have hx := HXx.out he
          rw [he] at k1
          rw [hx] at HS0
          obtain ⟨ak, ck, hgv, _⟩ := id HS0.out
          rw [hgv] at k2 HS0
          have HK2 := Hid.of k2
          have HS1 := Hid.of HS0.out
          clear k2 hgv hx hg HXx HNx HNe HS0
          go_wp2
          refine wp_region_held_drew (S := fun w2 => Up wr w2) (by kernel_rfl) (Up.refl _).drew (fun hS => ?_)
          refine wpAnyH_take (i := 0) (oi := { dst := some 125, op := Go.Op.move (Go.Operand.tmp 15), type := 32, pos := "outright.go:144", after := #[], guard := none }) (v := .slice (some ⟨b1, o1, none⟩) m c1) rfl (by kernel_rfl) (by kernel_rfl) (by kernel_rfl) (fun _ _ _ h => h) (Or.inl ⟨by kernel_rfl, ?_⟩) hS ?_
          · intro w5 hSw
            clear hSw hS
            go_simp
          simp only [Act.put, List.setIfInBounds_toArray, List.set_cons_zero, List.set_cons_succ]
          refine wpAnyH_take (i := 1) (oi := { dst := some 126, op := Go.Op.move (Go.Operand.tmp 17), type := 3, pos := "outright.go:144", after := #[], guard := none }) (v := .int .i64 (i : Int)) rfl (by kernel_rfl) (by kernel_rfl) (by kernel_rfl) (fun _ _ _ h => h) (Or.inl ⟨by kernel_rfl, ?_⟩) hS ?_
          · intro w5 hSw
            clear hSw hS
            go_simp
          simp only [Act.put, List.setIfInBounds_toArray, List.set_cons_zero, List.set_cons_succ]
          refine wpAnyH_take (i := 2) (oi := { dst := some 127, op := Go.Op.indexAddr 32 (Go.Operand.tmp 125) (Go.Operand.tmp 126), type := 0, pos := "outright.go:144", after := #[{ on := 0, ground := Go.Ground.data }, { on := 1, ground := Go.Ground.data }], guard := none }) (v := .pointer (some ⟨b1, o1 + i * 2, none⟩)) rfl (by kernel_rfl) (by kernel_rfl) (by kernel_rfl) (fun _ _ _ h => h) (Or.inl ⟨by kernel_rfl, ?_⟩) hS ?_
          · intro w5 hSw
            clear hSw hS
            exact exec_idxFile i hlt rfl rfl rfl
          simp only [Act.put, List.setIfInBounds_toArray, List.set_cons_zero, List.set_cons_succ]
          refine wpAnyH_take (i := 3) (oi := { dst := some 128, op := Go.Op.fieldAddr 49 (Go.Operand.tmp 127) 1, type := 0, pos := "outright.go:144", after := #[{ on := 2, ground := Go.Ground.data }], guard := none }) (v := .pointer (some ⟨b1, o1 + i * 2 + 1, none⟩)) rfl (by kernel_rfl) (by kernel_rfl) (by kernel_rfl) (fun _ _ _ h => h) (Or.inl ⟨by kernel_rfl, ?_⟩) hS ?_
          · intro w5 hSw
            clear hSw hS
            go_simp
          simp only [Act.put, List.setIfInBounds_toArray, List.set_cons_zero, List.set_cons_succ]
          refine wpAnyH_take (i := 4) (oi := { dst := some 129, op := Go.Op.load 41 (Go.Operand.tmp 128), type := 41, pos := "outright.go:144", after := #[{ on := 3, ground := Go.Ground.data }], guard := none }) (v := .slice ak xx.length ck) rfl (by kernel_rfl) (by kernel_rfl) (by kernel_rfl) (fun _ _ _ h => h) (Or.inl ⟨by kernel_rfl, ?_⟩) hS ?_
          · intro w5 hSw
            have h0 := (HU.out.trans hSw).cell HK2.out
            clear hSw hS
            go_simp
          simp only [Act.put, List.setIfInBounds_toArray, List.set_cons_zero, List.set_cons_succ]
          refine wpAnyH_take (i := 5) (oi := { dst := some 130, op := Go.Op.convert 41 9 (Go.Operand.tmp 129), type := 9, pos := "outright.go:144", after := #[{ on := 4, ground := Go.Ground.data }], guard := none }) (v := .string ⟨xx.toArray⟩) rfl (by kernel_rfl) (by kernel_rfl) (by kernel_rfl) (fun _ _ _ h => h) (Or.inl ⟨by kernel_rfl, ?_⟩) hS ?_
          · intro w5 hSw
            have h0 := conv_sb2 (HS1.out.up (HU.out.trans hSw))
            clear hSw hS
            go_simp
          simp only [Act.put, List.setIfInBounds_toArray, List.set_cons_zero, List.set_cons_succ]
          refine wpAnyH_take (i := 6) (oi := { dst := some 131, op := Go.Op.move (Go.Operand.tmp 5), type := 41, pos := "outright.go:144", after := #[], guard := none }) (v := .slice aO old.length cO) rfl (by kernel_rfl) (by kernel_rfl) (by kernel_rfl) (fun _ _ _ h => h) (Or.inl ⟨by kernel_rfl, ?_⟩) hS ?_
          · intro w5 hSw
            clear hSw hS
            go_simp
          simp only [Act.put, List.setIfInBounds_toArray, List.set_cons_zero, List.set_cons_succ]
          refine wpAnyH_take (i := 7) (oi := { dst := some 132, op := Go.Op.convert 41 9 (Go.Operand.tmp 131), type := 9, pos := "outright.go:144", after := #[{ on := 6, ground := Go.Ground.data }], guard := none }) (v := .string ⟨old.toArray⟩) rfl (by kernel_rfl) (by kernel_rfl) (by kernel_rfl) (fun _ _ _ h => h) (Or.inl ⟨by kernel_rfl, ?_⟩) hS ?_
          · intro w5 hSw
            have h0 := conv_sb2 (HWO.out.up (HU.out.trans hSw))
            clear hSw hS
            go_simp
          simp only [Act.put, List.setIfInBounds_toArray, List.set_cons_zero, List.set_cons_succ]
          refine wpAnyH_take (i := 8) (oi := { dst := some 133, op := Go.Op.binOp Go.BinOp.eql 9 (Go.Operand.tmp 130) (Go.Operand.tmp 132) 9, type := 4, pos := "outright.go:144", after := #[{ on := 5, ground := Go.Ground.data }, { on := 7, ground := Go.Ground.data }], guard := none }) (v := .bool true) rfl (by kernel_rfl) (by kernel_rfl) (by kernel_rfl) (fun _ _ _ h => h) (Or.inl ⟨by kernel_rfl, ?_⟩) hS ?_
          · intro w5 hSw
            have h0 := HQO.out
            have h1 := eq_of_b HQO.out
            clear hSw hS
            go_simp
          simp only [Act.put, List.setIfInBounds_toArray, List.set_cons_zero, List.set_cons_succ]
          refine wpAnyH_ready (rs := [9]) (by kernel_rfl) (by simp) ?_
          refine AllReadyH.cons (o := { dst := some 18, op := Go.Op.assign (Go.Operand.tmp 133), type := 4, pos := "outright.go:144", after := #[{ on := 8, ground := Go.Ground.data }, { on := 0, ground := Go.Ground.phase }, { on := 1, ground := Go.Ground.phase }, { on := 2, ground := Go.Ground.phase }, { on := 3, ground := Go.Ground.phase }, { on := 4, ground := Go.Ground.phase }, { on := 5, ground := Go.Ground.phase }, { on := 6, ground := Go.Ground.phase }, { on := 7, ground := Go.Ground.phase }, { on := 8, ground := Go.Ground.phase }], guard := none }) rfl (fun K hK => ?_) AllReadyH.nil
          rw [if_pos (by kernel_rfl)]
          go_simp
          refine hK.out _ _ hS (fun hS => ?_)
          clear hK K
          have HU2 := Hid.of (HU.out.trans hS)
          clear hS
          refine wpAnyH_done (by kernel_rfl) ?_ _
          go_wp2
          refine wp_region_held_drew (S := fun w2 => Up wr.drew w2) (by kernel_rfl) (Up.refl _).drew (fun hS => ?_)
          refine wpAnyH_take (i := 0) (oi := { dst := some 134, op := Go.Op.move (Go.Operand.tmp 15), type := 32, pos := "outright.go:145", after := #[], guard := none }) (v := .slice (some ⟨b1, o1, none⟩) m c1) rfl (by kernel_rfl) (by kernel_rfl) (by kernel_rfl) (fun _ _ _ h => h) (Or.inl ⟨by kernel_rfl, ?_⟩) hS ?_
          · intro w5 hSw
            clear hSw hS
            go_simp
          simp only [Act.put, List.setIfInBounds_toArray, List.set_cons_zero, List.set_cons_succ]
          refine wpAnyH_take (i := 1) (oi := { dst := some 135, op := Go.Op.move (Go.Operand.tmp 17), type := 3, pos := "outright.go:145", after := #[], guard := none }) (v := .int .i64 (i : Int)) rfl (by kernel_rfl) (by kernel_rfl) (by kernel_rfl) (fun _ _ _ h => h) (Or.inl ⟨by kernel_rfl, ?_⟩) hS ?_
          · intro w5 hSw
            clear hSw hS
            go_simp
          simp only [Act.put, List.setIfInBounds_toArray, List.set_cons_zero, List.set_cons_succ]
          refine wpAnyH_take (i := 2) (oi := { dst := some 136, op := Go.Op.indexAddr 32 (Go.Operand.tmp 134) (Go.Operand.tmp 135), type := 0, pos := "outright.go:145", after := #[{ on := 0, ground := Go.Ground.data }, { on := 1, ground := Go.Ground.data }], guard := none }) (v := .pointer (some ⟨b1, o1 + i * 2, none⟩)) rfl (by kernel_rfl) (by kernel_rfl) (by kernel_rfl) (fun _ _ _ h => h) (Or.inl ⟨by kernel_rfl, ?_⟩) hS ?_
          · intro w5 hSw
            clear hSw hS
            exact exec_idxFile i hlt rfl rfl rfl
          simp only [Act.put, List.setIfInBounds_toArray, List.set_cons_zero, List.set_cons_succ]
          refine wpAnyH_take (i := 3) (oi := { dst := some 137, op := Go.Op.fieldAddr 49 (Go.Operand.tmp 136) 1, type := 0, pos := "outright.go:145", after := #[{ on := 2, ground := Go.Ground.data }], guard := none }) (v := .pointer (some ⟨b1, o1 + i * 2 + 1, none⟩)) rfl (by kernel_rfl) (by kernel_rfl) (by kernel_rfl) (fun _ _ _ h => h) (Or.inl ⟨by kernel_rfl, ?_⟩) hS ?_
          · intro w5 hSw
            clear hSw hS
            go_simp
          simp only [Act.put, List.setIfInBounds_toArray, List.set_cons_zero, List.set_cons_succ]
          refine wpAnyH_take (i := 4) (oi := { dst := some 138, op := Go.Op.load 41 (Go.Operand.tmp 137), type := 41, pos := "outright.go:145", after := #[{ on := 3, ground := Go.Ground.data }], guard := none }) (v := .slice ak xx.length ck) rfl (by kernel_rfl) (by kernel_rfl) (by kernel_rfl) (fun _ _ _ h => h) (Or.inl ⟨by kernel_rfl, ?_⟩) hS ?_
          · intro w5 hSw
            have h0 := (HU2.out.trans hSw).cell HK2.out
            clear hSw hS
            go_simp
          simp only [Act.put, List.setIfInBounds_toArray, List.set_cons_zero, List.set_cons_succ]
          refine wpAnyH_take (i := 5) (oi := { dst := some 139, op := Go.Op.convert 41 9 (Go.Operand.tmp 138), type := 9, pos := "outright.go:145", after := #[{ on := 4, ground := Go.Ground.data }], guard := none }) (v := .string ⟨xx.toArray⟩) rfl (by kernel_rfl) (by kernel_rfl) (by kernel_rfl) (fun _ _ _ h => h) (Or.inl ⟨by kernel_rfl, ?_⟩) hS ?_
          · intro w5 hSw
            have h0 := conv_sb2 (HS1.out.up (HU2.out.trans hSw))
            clear hSw hS
            go_simp
          simp only [Act.put, List.setIfInBounds_toArray, List.set_cons_zero, List.set_cons_succ]
          refine wpAnyH_take (i := 6) (oi := { dst := some 140, op := Go.Op.move (Go.Operand.tmp 6), type := 41, pos := "outright.go:145", after := #[], guard := none }) (v := .slice aN now.length cN) rfl (by kernel_rfl) (by kernel_rfl) (by kernel_rfl) (fun _ _ _ h => h) (Or.inl ⟨by kernel_rfl, ?_⟩) hS ?_
          · intro w5 hSw
            clear hSw hS
            go_simp
          simp only [Act.put, List.setIfInBounds_toArray, List.set_cons_zero, List.set_cons_succ]
          refine wpAnyH_take (i := 7) (oi := { dst := some 141, op := Go.Op.convert 41 9 (Go.Operand.tmp 140), type := 9, pos := "outright.go:145", after := #[{ on := 6, ground := Go.Ground.data }], guard := none }) (v := .string ⟨now.toArray⟩) rfl (by kernel_rfl) (by kernel_rfl) (by kernel_rfl) (fun _ _ _ h => h) (Or.inl ⟨by kernel_rfl, ?_⟩) hS ?_
          · intro w5 hSw
            have h0 := conv_sb2 (HWN.out.up (HU2.out.trans hSw))
            clear hSw hS
            go_simp
          simp only [Act.put, List.setIfInBounds_toArray, List.set_cons_zero, List.set_cons_succ]
          refine wpAnyH_take (i := 8) (oi := { dst := some 142, op := Go.Op.binOp Go.BinOp.eql 9 (Go.Operand.tmp 139) (Go.Operand.tmp 141) 9, type := 4, pos := "outright.go:145", after := #[{ on := 5, ground := Go.Ground.data }, { on := 7, ground := Go.Ground.data }], guard := none }) (v := .bool qN) rfl (by kernel_rfl) (by kernel_rfl) (by kernel_rfl) (fun _ _ _ h => h) (Or.inl ⟨by kernel_rfl, ?_⟩) hS ?_
          · intro w5 hSw
            have h0 := HQN.out
            have h1 := eq_of_b HQN.out
            clear hSw hS
            go_simp
          simp only [Act.put, List.setIfInBounds_toArray, List.set_cons_zero, List.set_cons_succ]
          refine wpAnyH_ready (rs := [9]) (by kernel_rfl) (by simp) ?_
          refine AllReadyH.cons (o := { dst := some 19, op := Go.Op.assign (Go.Operand.tmp 142), type := 4, pos := "outright.go:145", after := #[{ on := 8, ground := Go.Ground.data }, { on := 0, ground := Go.Ground.phase }, { on := 1, ground := Go.Ground.phase }, { on := 2, ground := Go.Ground.phase }, { on := 3, ground := Go.Ground.phase }, { on := 4, ground := Go.Ground.phase }, { on := 5, ground := Go.Ground.phase }, { on := 6, ground := Go.Ground.phase }, { on := 7, ground := Go.Ground.phase }, { on := 8, ground := Go.Ground.phase }], guard := none }) rfl (fun K hK => ?_) AllReadyH.nil
          rw [if_pos (by kernel_rfl)]
          go_simp
          refine hK.out _ _ hS (fun hS => ?_)
          clear hK K
          have HU3b := Hid.of (HU2.out.trans hS)
          clear hS
          refine wpAnyH_done (by kernel_rfl) ?_ _
          go_wp2
          go_ret
          exact ⟨rfl, (HUp.out.trans HU3b.out)⟩
        · have HE := Hid.of he
          obtain ⟨y, hy⟩ : ∃ y : List UInt8, g.nm = ⟨y.toArray⟩ := ⟨g.nm.data.toList, rfl⟩
          rw [hy] at k1
          have hq : (y == [104, 101, 97, 100]) = false := by
            rw [beq_eq_false_iff_ne]
            exact fun e => he (by rw [hy, e])
          clear he hy
          go_wp2
          go_roundw
          all_goals first
            | exact ⟨i + 1, by go_num, by omega, Hid.of ⟨HU.out, fun j h hj => HNx.out j h hj HE.out⟩⟩
            | (simp [intOf]; omega)
      · exfalso
        obtain ⟨g, hg, e⟩ := List.mem_map.1 HMem.out
        obtain ⟨j, hj, rfl⟩ := List.mem_iff_getElem.1 hg
        refine HNe.out j hj (by have := HM.out; omega) ?_
        exact ByteArray.ext (Array.toList_inj.1 (congrArg Prod.fst e))
  · rw [show sw 3 (0 + 1) = 0 by decide, show sw 3 (1 + 1) = 0 by decide, show sw 3 (2 + 1) = 125 by decide, show sw 3 (3 + 1) = 125 by decide, show sw 3 (4 + 1) = 125 by decide]
    have HQ := Hid.of (show QS old now 3 r5 from HW18.out.2.q)
    have c3 := (HB3.out.up HW18.out.1.up).cell (i := 3) rfl
    have HAf := Hid.of (after_gen _ D _ 2097152 r5 (.slice ac cs.length cc) cs w18 HW18.out.1.ok (HC.out.up (HU3.out.trans HW18.out.1.up)) (HW18.out.1.iv.cf (by omega)) (by have := HW18.out.1.iv.n0; omega) hcl (by omega))
    go_wp2_with fail
    refine HAf.out.mono ?_
    rintro e w19 ⟨a19, fs, c1, gs, ws, rfl, o19, f19, k19, l19, q19⟩
    obtain ⟨xx, hx1, hx2, hx3, hx4⟩ := HQ.out.found (by decide) l19 HW18.out.1.ok.nD
    have HMem := Hid.of (show (hdN.data.toList, xx) ∈ fs.map pr by rw [q19]; exact hx1)
    have HNd := Hid.of (show ((fs.map pr).map Prod.fst).Nodup by rw [q19]; exact srF_nd l19.ndl)
    have HFs := Hid.of o19
    obtain ⟨m, hm⟩ : ∃ m, fs.length = m := ⟨_, rfl⟩
    have HM := Hid.of hm
    have hcap := o19.fsl.cap
    rw [hm] at hcap
    rw [hm]
    have hmB : m ≤ 1000 := by
      have h5 := congrArg List.length q19
      rw [List.length_map, (srF_perm l19.ndl).length_eq, lfs_len, hm] at h5
      have h6 := l19.len (HW18.out.1.iv.cf (by omega))
      have h7 := HW18.out.1.iv.cnt
      omega
    have HUp := Hid.of (up_disk (s := r5) (HU3.out.trans HW18.out.1.up) (fun k hk => Nat.le_trans HU3.out.size (HW18.out.1.lo k hk)) (f19.weak (fun _ hb => hb ▸ .inl rfl)))
    have HUw := Hid.of (up_disk (s := r5) HW18.out.1.up HW18.out.1.lo (f19.weak (fun _ hb => hb ▸ .inl rfl)))
    have HWO := Hid.of (HO5b.out.up HUw.out)
    have HWN := Hid.of (HO6.out.up HUw.out)
    obtain ⟨qO, hqO⟩ : ∃ q, (xx == old) = q := ⟨_, rfl⟩
    obtain ⟨qN, hqN⟩ : ∃ q, (xx == now) = q := ⟨_, rfl⟩
    have HQO := Hid.of hqO
    have HQN := Hid.of hqN
    have hb : true = qO := by
      rw [← hqO, hx2 (by decide), beq_self_eq_true]
    clear hqO hqN hx1 hx2 hx3 hx4 hm o19 f19 k19 l19 q19 HAf HQ c3
    dsimp only
    subst hb
    go_wp2
    go_loopw [17] (fun v17 wr => ∃ i : Nat, v17 = .int .i64 (i : Int) ∧ i ≤ m ∧ Hid (Up w19 wr ∧ ∀ j (h : j < fs.length), j < i → fs[j].nm ≠ hdN)) (fun v17 _ => m - (intOf v17).toNat)
    case atStart => exact ⟨0, rfl, by omega, Hid.of ⟨Up.refl _, fun j _ h => by omega⟩⟩
    case round =>
      obtain ⟨i, rfl, hi, hU⟩ := hrel
      have HU := Hid.of hU.out.1
      have HNe := Hid.of hU.out.2
      clear hU
      by_cases hlt : i < m
      · have hz : (i : Int) < (m : Int) := by omega
        have hf : i < fs.length := by rw [HM.out]; exact hlt
        obtain ⟨b1, o1, rfl, k1, k2⟩ := HFs.out.fsl.cells i hf
        have HS0 := Hid.of (HFs.out.fsl.sb _ (List.getElem_mem hf))
        obtain ⟨g, hg⟩ : ∃ g, fs[i] = g := ⟨_, rfl⟩
        have HNx := Hid.of (show ∀ j (h : j < fs.length), j < i + 1 → fs[i].nm ≠ hdN → fs[j].nm ≠ hdN from fun j h hj hne => by
          rcases Nat.lt_or_ge j i with h5 | h5
          · exact HNe.out j h h5
          · obtain rfl : j = i := by omega
            exact hne)
        have HXx := Hid.of (show fs[i].nm = hdN → fs[i].ds = xx from fun he => by
          have h5 : (hdN.data.toList, fs[i].ds) ∈ fs.map pr := List.mem_map.2 ⟨fs[i], List.getElem_mem hf, by unfold pr; rw [he]⟩
          exact nd_val HNd.out h5 HMem.out)
        rw [hg] at k1 k2 HS0 HXx HNx
        have k1 := HU.out.cell k1
        by_cases he : g.nm = hdN
        · have hx := HXx.out he
          rw [he] at k1
          rw [hx] at HS0
          obtain ⟨ak, ck, hgv, _⟩ := id HS0.out
          rw [hgv] at k2 HS0
          have HK2 := Hid.of k2
          have HS1 := Hid.of HS0.out
          clear k2 hgv hx hg HXx HNx HNe HS0
          go_wp2
          refine wp_region_held_drew (S := fun w2 => Up wr w2) (by kernel_rfl) (Up.refl _).drew (fun hS => ?_)
          refine wpAnyH_take (i := 0) (oi := { dst := some 125, op := Go.Op.move (Go.Operand.tmp 15), type := 32, pos := "outright.go:144", after := #[], guard := none }) (v := .slice (some ⟨b1, o1, none⟩) m c1) rfl (by kernel_rfl) (by kernel_rfl) (by kernel_rfl) (fun _ _ _ h => h) (Or.inl ⟨by kernel_rfl, ?_⟩) hS ?_
          · intro w5 hSw
            clear hSw hS
            go_simp
          simp only [Act.put, List.setIfInBounds_toArray, List.set_cons_zero, List.set_cons_succ]
          refine wpAnyH_take (i := 1) (oi := { dst := some 126, op := Go.Op.move (Go.Operand.tmp 17), type := 3, pos := "outright.go:144", after := #[], guard := none }) (v := .int .i64 (i : Int)) rfl (by kernel_rfl) (by kernel_rfl) (by kernel_rfl) (fun _ _ _ h => h) (Or.inl ⟨by kernel_rfl, ?_⟩) hS ?_
          · intro w5 hSw
            clear hSw hS
            go_simp
          simp only [Act.put, List.setIfInBounds_toArray, List.set_cons_zero, List.set_cons_succ]
          refine wpAnyH_take (i := 2) (oi := { dst := some 127, op := Go.Op.indexAddr 32 (Go.Operand.tmp 125) (Go.Operand.tmp 126), type := 0, pos := "outright.go:144", after := #[{ on := 0, ground := Go.Ground.data }, { on := 1, ground := Go.Ground.data }], guard := none }) (v := .pointer (some ⟨b1, o1 + i * 2, none⟩)) rfl (by kernel_rfl) (by kernel_rfl) (by kernel_rfl) (fun _ _ _ h => h) (Or.inl ⟨by kernel_rfl, ?_⟩) hS ?_
          · intro w5 hSw
            clear hSw hS
            exact exec_idxFile i hlt rfl rfl rfl
          simp only [Act.put, List.setIfInBounds_toArray, List.set_cons_zero, List.set_cons_succ]
          refine wpAnyH_take (i := 3) (oi := { dst := some 128, op := Go.Op.fieldAddr 49 (Go.Operand.tmp 127) 1, type := 0, pos := "outright.go:144", after := #[{ on := 2, ground := Go.Ground.data }], guard := none }) (v := .pointer (some ⟨b1, o1 + i * 2 + 1, none⟩)) rfl (by kernel_rfl) (by kernel_rfl) (by kernel_rfl) (fun _ _ _ h => h) (Or.inl ⟨by kernel_rfl, ?_⟩) hS ?_
          · intro w5 hSw
            clear hSw hS
            go_simp
          simp only [Act.put, List.setIfInBounds_toArray, List.set_cons_zero, List.set_cons_succ]
          refine wpAnyH_take (i := 4) (oi := { dst := some 129, op := Go.Op.load 41 (Go.Operand.tmp 128), type := 41, pos := "outright.go:144", after := #[{ on := 3, ground := Go.Ground.data }], guard := none }) (v := .slice ak xx.length ck) rfl (by kernel_rfl) (by kernel_rfl) (by kernel_rfl) (fun _ _ _ h => h) (Or.inl ⟨by kernel_rfl, ?_⟩) hS ?_
          · intro w5 hSw
            have h0 := (HU.out.trans hSw).cell HK2.out
            clear hSw hS
            go_simp
          simp only [Act.put, List.setIfInBounds_toArray, List.set_cons_zero, List.set_cons_succ]
          refine wpAnyH_take (i := 5) (oi := { dst := some 130, op := Go.Op.convert 41 9 (Go.Operand.tmp 129), type := 9, pos := "outright.go:144", after := #[{ on := 4, ground := Go.Ground.data }], guard := none }) (v := .string ⟨xx.toArray⟩) rfl (by kernel_rfl) (by kernel_rfl) (by kernel_rfl) (fun _ _ _ h => h) (Or.inl ⟨by kernel_rfl, ?_⟩) hS ?_
          · intro w5 hSw
            have h0 := conv_sb2 (HS1.out.up (HU.out.trans hSw))
            clear hSw hS
            go_simp
          simp only [Act.put, List.setIfInBounds_toArray, List.set_cons_zero, List.set_cons_succ]
          refine wpAnyH_take (i := 6) (oi := { dst := some 131, op := Go.Op.move (Go.Operand.tmp 5), type := 41, pos := "outright.go:144", after := #[], guard := none }) (v := .slice aO old.length cO) rfl (by kernel_rfl) (by kernel_rfl) (by kernel_rfl) (fun _ _ _ h => h) (Or.inl ⟨by kernel_rfl, ?_⟩) hS ?_
          · intro w5 hSw
            clear hSw hS
            go_simp
          simp only [Act.put, List.setIfInBounds_toArray, List.set_cons_zero, List.set_cons_succ]
          refine wpAnyH_take (i := 7) (oi := { dst := some 132, op := Go.Op.convert 41 9 (Go.Operand.tmp 131), type := 9, pos := "outright.go:144", after := #[{ on := 6, ground := Go.Ground.data }], guard := none }) (v := .string ⟨old.toArray⟩) rfl (by kernel_rfl) (by kernel_rfl) (by kernel_rfl) (fun _ _ _ h => h) (Or.inl ⟨by kernel_rfl, ?_⟩) hS ?_
          · intro w5 hSw
            have h0 := conv_sb2 (HWO.out.up (HU.out.trans hSw))
            clear hSw hS
            go_simp
          simp only [Act.put, List.setIfInBounds_toArray, List.set_cons_zero, List.set_cons_succ]
          refine wpAnyH_take (i := 8) (oi := { dst := some 133, op := Go.Op.binOp Go.BinOp.eql 9 (Go.Operand.tmp 130) (Go.Operand.tmp 132) 9, type := 4, pos := "outright.go:144", after := #[{ on := 5, ground := Go.Ground.data }, { on := 7, ground := Go.Ground.data }], guard := none }) (v := .bool true) rfl (by kernel_rfl) (by kernel_rfl) (by kernel_rfl) (fun _ _ _ h => h) (Or.inl ⟨by kernel_rfl, ?_⟩) hS ?_
          · intro w5 hSw
            have h0 := HQO.out
            have h1 := eq_of_b HQO.out
            clear hSw hS
            go_simp
          simp only [Act.put, List.setIfInBounds_toArray, List.set_cons_zero, List.set_cons_succ]
          refine wpAnyH_ready (rs := [9]) (by kernel_rfl) (by simp) ?_
          refine AllReadyH.cons (o := { dst := some 18, op := Go.Op.assign (Go.Operand.tmp 133), type := 4, pos := "outright.go:144", after := #[{ on := 8, ground := Go.Ground.data }, { on := 0, ground := Go.Ground.phase }, { on := 1, ground := Go.Ground.phase }, { on := 2, ground := Go.Ground.phase }, { on := 3, ground := Go.Ground.phase }, { on := 4, ground := Go.Ground.phase }, { on := 5, ground := Go.Ground.phase }, { on := 6, ground := Go.Ground.phase }, { on := 7, ground := Go.Ground.phase }, { on := 8, ground := Go.Ground.phase }], guard := none }) rfl (fun K hK => ?_) AllReadyH.nil
          rw [if_pos (by kernel_rfl)]
          go_simp
          refine hK.out _ _ hS (fun hS => ?_)
          clear hK K
          have HU2 := Hid.of (HU.out.trans hS)
          clear hS
          refine wpAnyH_done (by kernel_rfl) ?_ _
          go_wp2
          refine wp_region_held_drew (S := fun w2 => Up wr.drew w2) (by kernel_rfl) (Up.refl _).drew (fun hS => ?_)
          refine wpAnyH_take (i := 0) (oi := { dst := some 134, op := Go.Op.move (Go.Operand.tmp 15), type := 32, pos := "outright.go:145", after := #[], guard := none }) (v := .slice (some ⟨b1, o1, none⟩) m c1) rfl (by kernel_rfl) (by kernel_rfl) (by kernel_rfl) (fun _ _ _ h => h) (Or.inl ⟨by kernel_rfl, ?_⟩) hS ?_
          · intro w5 hSw
            clear hSw hS
            go_simp
          simp only [Act.put, List.setIfInBounds_toArray, List.set_cons_zero, List.set_cons_succ]
          refine wpAnyH_take (i := 1) (oi := { dst := some 135, op := Go.Op.move (Go.Operand.tmp 17), type := 3, pos := "outright.go:145", after := #[], guard := none }) (v := .int .i64 (i : Int)) rfl (by kernel_rfl) (by kernel_rfl) (by kernel_rfl) (fun _ _ _ h => h) (Or.inl ⟨by kernel_rfl, ?_⟩) hS ?_
          · intro w5 hSw
            clear hSw hS
            go_simp
          simp only [Act.put, List.setIfInBounds_toArray, List.set_cons_zero, List.set_cons_succ]
          refine wpAnyH_take (i := 2) (oi := { dst := some 136, op := Go.Op.indexAddr 32 (Go.Operand.tmp 134) (Go.Operand.tmp 135), type := 0, pos := "outright.go:145", after := #[{ on := 0, ground := Go.Ground.data }, { on := 1, ground := Go.Ground.data }], guard := none }) (v := .pointer (some ⟨b1, o1 + i * 2, none⟩)) rfl (by kernel_rfl) (by kernel_rfl) (by kernel_rfl) (fun _ _ _ h => h) (Or.inl ⟨by kernel_rfl, ?_⟩) hS ?_
          · intro w5 hSw
            clear hSw hS
            exact exec_idxFile i hlt rfl rfl rfl
          simp only [Act.put, List.setIfInBounds_toArray, List.set_cons_zero, List.set_cons_succ]
          refine wpAnyH_take (i := 3) (oi := { dst := some 137, op := Go.Op.fieldAddr 49 (Go.Operand.tmp 136) 1, type := 0, pos := "outright.go:145", after := #[{ on := 2, ground := Go.Ground.data }], guard := none }) (v := .pointer (some ⟨b1, o1 + i * 2 + 1, none⟩)) rfl (by kernel_rfl) (by kernel_rfl) (by kernel_rfl) (fun _ _ _ h => h) (Or.inl ⟨by kernel_rfl, ?_⟩) hS ?_
          · intro w5 hSw
            clear hSw hS
            go_simp
          simp only [Act.put, List.setIfInBounds_toArray, List.set_cons_zero, List.set_cons_succ]
          refine wpAnyH_take (i := 4) (oi := { dst := some 138, op := Go.Op.load 41 (Go.Operand.tmp 137), type := 41, pos := "outright.go:145", after := #[{ on := 3, ground := Go.Ground.data }], guard := none }) (v := .slice ak xx.length ck) rfl (by kernel_rfl) (by kernel_rfl) (by kernel_rfl) (fun _ _ _ h => h) (Or.inl ⟨by kernel_rfl, ?_⟩) hS ?_
          · intro w5 hSw
            have h0 := (HU2.out.trans hSw).cell HK2.out
            clear hSw hS
            go_simp
          simp only [Act.put, List.setIfInBounds_toArray, List.set_cons_zero, List.set_cons_succ]
          refine wpAnyH_take (i := 5) (oi := { dst := some 139, op := Go.Op.convert 41 9 (Go.Operand.tmp 138), type := 9, pos := "outright.go:145", after := #[{ on := 4, ground := Go.Ground.data }], guard := none }) (v := .string ⟨xx.toArray⟩) rfl (by kernel_rfl) (by kernel_rfl) (by kernel_rfl) (fun _ _ _ h => h) (Or.inl ⟨by kernel_rfl, ?_⟩) hS ?_
          · intro w5 hSw
            have h0 := conv_sb2 (HS1.out.up (HU2.out.trans hSw))
            clear hSw hS
            go_simp
          simp only [Act.put, List.setIfInBounds_toArray, List.set_cons_zero, List.set_cons_succ]
          refine wpAnyH_take (i := 6) (oi := { dst := some 140, op := Go.Op.move (Go.Operand.tmp 6), type := 41, pos := "outright.go:145", after := #[], guard := none }) (v := .slice aN now.length cN) rfl (by kernel_rfl) (by kernel_rfl) (by kernel_rfl) (fun _ _ _ h => h) (Or.inl ⟨by kernel_rfl, ?_⟩) hS ?_
          · intro w5 hSw
            clear hSw hS
            go_simp
          simp only [Act.put, List.setIfInBounds_toArray, List.set_cons_zero, List.set_cons_succ]
          refine wpAnyH_take (i := 7) (oi := { dst := some 141, op := Go.Op.convert 41 9 (Go.Operand.tmp 140), type := 9, pos := "outright.go:145", after := #[{ on := 6, ground := Go.Ground.data }], guard := none }) (v := .string ⟨now.toArray⟩) rfl (by kernel_rfl) (by kernel_rfl) (by kernel_rfl) (fun _ _ _ h => h) (Or.inl ⟨by kernel_rfl, ?_⟩) hS ?_
          · intro w5 hSw
            have h0 := conv_sb2 (HWN.out.up (HU2.out.trans hSw))
            clear hSw hS
            go_simp
          simp only [Act.put, List.setIfInBounds_toArray, List.set_cons_zero, List.set_cons_succ]
          refine wpAnyH_take (i := 8) (oi := { dst := some 142, op := Go.Op.binOp Go.BinOp.eql 9 (Go.Operand.tmp 139) (Go.Operand.tmp 141) 9, type := 4, pos := "outright.go:145", after := #[{ on := 5, ground := Go.Ground.data }, { on := 7, ground := Go.Ground.data }], guard := none }) (v := .bool qN) rfl (by kernel_rfl) (by kernel_rfl) (by kernel_rfl) (fun _ _ _ h => h) (Or.inl ⟨by kernel_rfl, ?_⟩) hS ?_
          · intro w5 hSw
            have h0 := HQN.out
            have h1 := eq_of_b HQN.out
            clear hSw hS
            go_simp
          simp only [Act.put, List.setIfInBounds_toArray, List.set_cons_zero, List.set_cons_succ]
          refine wpAnyH_ready (rs := [9]) (by kernel_rfl) (by simp) ?_
          refine AllReadyH.cons (o := { dst := some 19, op := Go.Op.assign (Go.Operand.tmp 142), type := 4, pos := "outright.go:145", after := #[{ on := 8, ground := Go.Ground.data }, { on := 0, ground := Go.Ground.phase }, { on := 1, ground := Go.Ground.phase }, { on := 2, ground := Go.Ground.phase }, { on := 3, ground := Go.Ground.phase }, { on := 4, ground := Go.Ground.phase }, { on := 5, ground := Go.Ground.phase }, { on := 6, ground := Go.Ground.phase }, { on := 7, ground := Go.Ground.phase }, { on := 8, ground := Go.Ground.phase }], guard := none }) rfl (fun K hK => ?_) AllReadyH.nil
          rw [if_pos (by kernel_rfl)]
          go_simp
          refine hK.out _ _ hS (fun hS => ?_)
          clear hK K
          have HU3b := Hid.of (HU2.out.trans hS)
          clear hS
          refine wpAnyH_done (by kernel_rfl) ?_ _
          go_wp2
          go_ret
          exact ⟨rfl, (HUp.out.trans HU3b.out)⟩
        · have HE := Hid.of he
          obtain ⟨y, hy⟩ : ∃ y : List UInt8, g.nm = ⟨y.toArray⟩ := ⟨g.nm.data.toList, rfl⟩
          rw [hy] at k1
          have hq : (y == [104, 101, 97, 100]) = false := by
            rw [beq_eq_false_iff_ne]
            exact fun e => he (by rw [hy, e])
          clear he hy
          go_wp2
          go_roundw
          all_goals first
            | exact ⟨i + 1, by go_num, by omega, Hid.of ⟨HU.out, fun j h hj => HNx.out j h hj HE.out⟩⟩
            | (simp [intOf]; omega)
      · exfalso
        obtain ⟨g, hg, e⟩ := List.mem_map.1 HMem.out
        obtain ⟨j, hj, rfl⟩ := List.mem_iff_getElem.1 hg
        refine HNe.out j hj (by have := HM.out; omega) ?_
        exact ByteArray.ext (Array.toList_inj.1 (congrArg Prod.fst e))
  · rw [show sw 4 (0 + 1) = 0 by decide, show sw 4 (1 + 1) = 0 by decide, show sw 4 (2 + 1) = 0 by decide, show sw 4 (3 + 1) = 125 by decide, show sw 4 (4 + 1) = 125 by decide]
    have HQ := Hid.of (show QS old now 4 r5 from HW18.out.2.q)
    have c3 := (HB3.out.up HW18.out.1.up).cell (i := 3) rfl
    have HAf := Hid.of (after_gen _ D _ 2097152 r5 (.slice ac cs.length cc) cs w18 HW18.out.1.ok (HC.out.up (HU3.out.trans HW18.out.1.up)) (HW18.out.1.iv.cf (by omega)) (by have := HW18.out.1.iv.n0; omega) hcl (by omega))
    go_wp2_with fail
    refine HAf.out.mono ?_
    rintro e w19 ⟨a19, fs, c1, gs, ws, rfl, o19, f19, k19, l19, q19⟩
    obtain ⟨xx, hx1, hx2, hx3, hx4⟩ := HQ.out.found (by decide) l19 HW18.out.1.ok.nD
    have HMem := Hid.of (show (hdN.data.toList, xx) ∈ fs.map pr by rw [q19]; exact hx1)
    have HNd := Hid.of (show ((fs.map pr).map Prod.fst).Nodup by rw [q19]; exact srF_nd l19.ndl)
    have HFs := Hid.of o19
    obtain ⟨m, hm⟩ : ∃ m, fs.length = m := ⟨_, rfl⟩
    have HM := Hid.of hm
    have hcap := o19.fsl.cap
    rw [hm] at hcap
    rw [hm]
    have hmB : m ≤ 1000 := by
      have h5 := congrArg List.length q19
      rw [List.length_map, (srF_perm l19.ndl).length_eq, lfs_len, hm] at h5
      have h6 := l19.len (HW18.out.1.iv.cf (by omega))
      have h7 := HW18.out.1.iv.cnt
      omega
    have HUp := Hid.of (up_disk (s := r5) (HU3.out.trans HW18.out.1.up) (fun k hk => Nat.le_trans HU3.out.size (HW18.out.1.lo k hk)) (f19.weak (fun _ hb => hb ▸ .inl rfl)))
    have HUw := Hid.of (up_disk (s := r5) HW18.out.1.up HW18.out.1.lo (f19.weak (fun _ hb => hb ▸ .inl rfl)))
    have HWO := Hid.of (HO5b.out.up HUw.out)
    have HWN := Hid.of (HO6.out.up HUw.out)
    obtain ⟨qO, hqO⟩ : ∃ q, (xx == old) = q := ⟨_, rfl⟩
    obtain ⟨qN, hqN⟩ : ∃ q, (xx == now) = q := ⟨_, rfl⟩
    have HQO := Hid.of hqO
    have HQN := Hid.of hqN
    have hb : qO = true ∨ qN = true := by
      rcases hx4 with h | h
      · left; rw [← hqO, h, beq_self_eq_true]
      · right; rw [← hqN, h, beq_self_eq_true]
    clear hqO hqN hx1 hx2 hx3 hx4 hm o19 f19 k19 l19 q19 HAf HQ c3
    dsimp only
    go_wp2
    go_loopw [17] (fun v17 wr => ∃ i : Nat, v17 = .int .i64 (i : Int) ∧ i ≤ m ∧ Hid (Up w19 wr ∧ ∀ j (h : j < fs.length), j < i → fs[j].nm ≠ hdN)) (fun v17 _ => m - (intOf v17).toNat)
    case atStart => exact ⟨0, rfl, by omega, Hid.of ⟨Up.refl _, fun j _ h => by omega⟩⟩
    case round =>
      obtain ⟨i, rfl, hi, hU⟩ := hrel
      have HU := Hid.of hU.out.1
      have HNe := Hid.of hU.out.2
      clear hU
      by_cases hlt : i < m
      · have hz : (i : Int) < (m : Int) := by omega
        have hf : i < fs.length := by rw [HM.out]; exact hlt
        obtain ⟨b1, o1, rfl, k1, k2⟩ := HFs.out.fsl.cells i hf
        have HS0 := Hid.of (HFs.out.fsl.sb _ (List.getElem_mem hf))
        obtain ⟨g, hg⟩ : ∃ g, fs[i] = g := ⟨_, rfl⟩
        have HNx := Hid.of (show ∀ j (h : j < fs.length), j < i + 1 → fs[i].nm ≠ hdN → fs[j].nm ≠ hdN from fun j h hj hne => by
          rcases Nat.lt_or_ge j i with h5 | h5
          · exact HNe.out j h h5
          · obtain rfl : j = i := by omega
            exact hne)
        have HXx := Hid.of (show fs[i].nm = hdN → fs[i].ds = xx from fun he => by
          have h5 : (hdN.data.toList, fs[i].ds) ∈ fs.map pr := List.mem_map.2 ⟨fs[i], List.getElem_mem hf, by unfold pr; rw [he]⟩
          exact nd_val HNd.out h5 HMem.out)
        rw [hg] at k1 k2 HS0 HXx HNx
        have k1 := HU.out.cell k1
        by_cases he : g.nm = hdN
        · have hx := HXx.out he
          rw [he] at k1
          rw [hx] at HS0
          obtain ⟨ak, ck, hgv, _⟩ := id HS0.out
          rw [hgv] at k2 HS0
          have HK2 := Hid.of k2
          have HS1 := Hid.of HS0.out
          clear k2 hgv hx hg HXx HNx HNe HS0
          go_wp2
          cases qO with
          | true =>
            refine wp_region_held_drew (S := fun w2 => Up wr w2) (by kernel_rfl) (Up.refl _).drew (fun hS => ?_)
            refine wpAnyH_take (i := 0) (oi := { dst := some 125, op := Go.Op.move (Go.Operand.tmp 15), type := 32, pos := "outright.go:144", after := #[], guard := none }) (v := .slice (some ⟨b1, o1, none⟩) m c1) rfl (by kernel_rfl) (by kernel_rfl) (by kernel_rfl) (fun _ _ _ h => h) (Or.inl ⟨by kernel_rfl, ?_⟩) hS ?_
            · intro w5 hSw
              clear hSw hS
              go_simp
            simp only [Act.put, List.setIfInBounds_toArray, List.set_cons_zero, List.set_cons_succ]
            refine wpAnyH_take (i := 1) (oi := { dst := some 126, op := Go.Op.move (Go.Operand.tmp 17), type := 3, pos := "outright.go:144", after := #[], guard := none }) (v := .int .i64 (i : Int)) rfl (by kernel_rfl) (by kernel_rfl) (by kernel_rfl) (fun _ _ _ h => h) (Or.inl ⟨by kernel_rfl, ?_⟩) hS ?_
            · intro w5 hSw
              clear hSw hS
              go_simp
            simp only [Act.put, List.setIfInBounds_toArray, List.set_cons_zero, List.set_cons_succ]
            refine wpAnyH_take (i := 2) (oi := { dst := some 127, op := Go.Op.indexAddr 32 (Go.Operand.tmp 125) (Go.Operand.tmp 126), type := 0, pos := "outright.go:144", after := #[{ on := 0, ground := Go.Ground.data }, { on := 1, ground := Go.Ground.data }], guard := none }) (v := .pointer (some ⟨b1, o1 + i * 2, none⟩)) rfl (by kernel_rfl) (by kernel_rfl) (by kernel_rfl) (fun _ _ _ h => h) (Or.inl ⟨by kernel_rfl, ?_⟩) hS ?_
            · intro w5 hSw
              clear hSw hS
              exact exec_idxFile i hlt rfl rfl rfl
            simp only [Act.put, List.setIfInBounds_toArray, List.set_cons_zero, List.set_cons_succ]
            refine wpAnyH_take (i := 3) (oi := { dst := some 128, op := Go.Op.fieldAddr 49 (Go.Operand.tmp 127) 1, type := 0, pos := "outright.go:144", after := #[{ on := 2, ground := Go.Ground.data }], guard := none }) (v := .pointer (some ⟨b1, o1 + i * 2 + 1, none⟩)) rfl (by kernel_rfl) (by kernel_rfl) (by kernel_rfl) (fun _ _ _ h => h) (Or.inl ⟨by kernel_rfl, ?_⟩) hS ?_
            · intro w5 hSw
              clear hSw hS
              go_simp
            simp only [Act.put, List.setIfInBounds_toArray, List.set_cons_zero, List.set_cons_succ]
            refine wpAnyH_take (i := 4) (oi := { dst := some 129, op := Go.Op.load 41 (Go.Operand.tmp 128), type := 41, pos := "outright.go:144", after := #[{ on := 3, ground := Go.Ground.data }], guard := none }) (v := .slice ak xx.length ck) rfl (by kernel_rfl) (by kernel_rfl) (by kernel_rfl) (fun _ _ _ h => h) (Or.inl ⟨by kernel_rfl, ?_⟩) hS ?_
            · intro w5 hSw
              have h0 := (HU.out.trans hSw).cell HK2.out
              clear hSw hS
              go_simp
            simp only [Act.put, List.setIfInBounds_toArray, List.set_cons_zero, List.set_cons_succ]
            refine wpAnyH_take (i := 5) (oi := { dst := some 130, op := Go.Op.convert 41 9 (Go.Operand.tmp 129), type := 9, pos := "outright.go:144", after := #[{ on := 4, ground := Go.Ground.data }], guard := none }) (v := .string ⟨xx.toArray⟩) rfl (by kernel_rfl) (by kernel_rfl) (by kernel_rfl) (fun _ _ _ h => h) (Or.inl ⟨by kernel_rfl, ?_⟩) hS ?_
            · intro w5 hSw
              have h0 := conv_sb2 (HS1.out.up (HU.out.trans hSw))
              clear hSw hS
              go_simp
            simp only [Act.put, List.setIfInBounds_toArray, List.set_cons_zero, List.set_cons_succ]
            refine wpAnyH_take (i := 6) (oi := { dst := some 131, op := Go.Op.move (Go.Operand.tmp 5), type := 41, pos := "outright.go:144", after := #[], guard := none }) (v := .slice aO old.length cO) rfl (by kernel_rfl) (by kernel_rfl) (by kernel_rfl) (fun _ _ _ h => h) (Or.inl ⟨by kernel_rfl, ?_⟩) hS ?_
            · intro w5 hSw
              clear hSw hS
              go_simp
            simp only [Act.put, List.setIfInBounds_toArray, List.set_cons_zero, List.set_cons_succ]
            refine wpAnyH_take (i := 7) (oi := { dst := some 132, op := Go.Op.convert 41 9 (Go.Operand.tmp 131), type := 9, pos := "outright.go:144", after := #[{ on := 6, ground := Go.Ground.data }], guard := none }) (v := .string ⟨old.toArray⟩) rfl (by kernel_rfl) (by kernel_rfl) (by kernel_rfl) (fun _ _ _ h => h) (Or.inl ⟨by kernel_rfl, ?_⟩) hS ?_
            · intro w5 hSw
              have h0 := conv_sb2 (HWO.out.up (HU.out.trans hSw))
              clear hSw hS
              go_simp
            simp only [Act.put, List.setIfInBounds_toArray, List.set_cons_zero, List.set_cons_succ]
            refine wpAnyH_take (i := 8) (oi := { dst := some 133, op := Go.Op.binOp Go.BinOp.eql 9 (Go.Operand.tmp 130) (Go.Operand.tmp 132) 9, type := 4, pos := "outright.go:144", after := #[{ on := 5, ground := Go.Ground.data }, { on := 7, ground := Go.Ground.data }], guard := none }) (v := .bool true) rfl (by kernel_rfl) (by kernel_rfl) (by kernel_rfl) (fun _ _ _ h => h) (Or.inl ⟨by kernel_rfl, ?_⟩) hS ?_
            · intro w5 hSw
              have h0 := HQO.out
              have h1 := eq_of_b HQO.out
              clear hSw hS
              go_simp
            simp only [Act.put, List.setIfInBounds_toArray, List.set_cons_zero, List.set_cons_succ]
            refine wpAnyH_ready (rs := [9]) (by kernel_rfl) (by simp) ?_
            refine AllReadyH.cons (o := { dst := some 18, op := Go.Op.assign (Go.Operand.tmp 133), type := 4, pos := "outright.go:144", after := #[{ on := 8, ground := Go.Ground.data }, { on := 0, ground := Go.Ground.phase }, { on := 1, ground := Go.Ground.phase }, { on := 2, ground := Go.Ground.phase }, { on := 3, ground := Go.Ground.phase }, { on := 4, ground := Go.Ground.phase }, { on := 5, ground := Go.Ground.phase }, { on := 6, ground := Go.Ground.phase }, { on := 7, ground := Go.Ground.phase }, { on := 8, ground := Go.Ground.phase }], guard := none }) rfl (fun K hK => ?_) AllReadyH.nil
            rw [if_pos (by kernel_rfl)]
            go_simp
            refine hK.out _ _ hS (fun hS => ?_)
            clear hK K
            have HU2 := Hid.of (HU.out.trans hS)
            clear hS
            refine wpAnyH_done (by kernel_rfl) ?_ _
            go_wp2
            refine wp_region_held_drew (S := fun w2 => Up wr.drew w2) (by kernel_rfl) (Up.refl _).drew (fun hS => ?_)
            refine wpAnyH_take (i := 0) (oi := { dst := some 134, op := Go.Op.move (Go.Operand.tmp 15), type := 32, pos := "outright.go:145", after := #[], guard := none }) (v := .slice (some ⟨b1, o1, none⟩) m c1) rfl (by kernel_rfl) (by kernel_rfl) (by kernel_rfl) (fun _ _ _ h => h) (Or.inl ⟨by kernel_rfl, ?_⟩) hS ?_
            · intro w5 hSw
              clear hSw hS
              go_simp
            simp only [Act.put, List.setIfInBounds_toArray, List.set_cons_zero, List.set_cons_succ]
            refine wpAnyH_take (i := 1) (oi := { dst := some 135, op := Go.Op.move (Go.Operand.tmp 17), type := 3, pos := "outright.go:145", after := #[], guard := none }) (v := .int .i64 (i : Int)) rfl (by kernel_rfl) (by kernel_rfl) (by kernel_rfl) (fun _ _ _ h => h) (Or.inl ⟨by kernel_rfl, ?_⟩) hS ?_
            · intro w5 hSw
              clear hSw hS
              go_simp
            simp only [Act.put, List.setIfInBounds_toArray, List.set_cons_zero, List.set_cons_succ]
            refine wpAnyH_take (i := 2) (oi := { dst := some 136, op := Go.Op.indexAddr 32 (Go.Operand.tmp 134) (Go.Operand.tmp 135), type := 0, pos := "outright.go:145", after := #[{ on := 0, ground := Go.Ground.data }, { on := 1, ground := Go.Ground.data }], guard := none }) (v := .pointer (some ⟨b1, o1 + i * 2, none⟩)) rfl (by kernel_rfl) (by kernel_rfl) (by kernel_rfl) (fun _ _ _ h => h) (Or.inl ⟨by kernel_rfl, ?_⟩) hS ?_
            · intro w5 hSw
              clear hSw hS
              exact exec_idxFile i hlt rfl rfl rfl
            simp only [Act.put, List.setIfInBounds_toArray, List.set_cons_zero, List.set_cons_succ]
            refine wpAnyH_take (i := 3) (oi := { dst := some 137, op := Go.Op.fieldAddr 49 (Go.Operand.tmp 136) 1, type := 0, pos := "outright.go:145", after := #[{ on := 2, ground := Go.Ground.data }], guard := none }) (v := .pointer (some ⟨b1, o1 + i * 2 + 1, none⟩)) rfl (by kernel_rfl) (by kernel_rfl) (by kernel_rfl) (fun _ _ _ h => h) (Or.inl ⟨by kernel_rfl, ?_⟩) hS ?_
            · intro w5 hSw
              clear hSw hS
              go_simp
            simp only [Act.put, List.setIfInBounds_toArray, List.set_cons_zero, List.set_cons_succ]
            refine wpAnyH_take (i := 4) (oi := { dst := some 138, op := Go.Op.load 41 (Go.Operand.tmp 137), type := 41, pos := "outright.go:145", after := #[{ on := 3, ground := Go.Ground.data }], guard := none }) (v := .slice ak xx.length ck) rfl (by kernel_rfl) (by kernel_rfl) (by kernel_rfl) (fun _ _ _ h => h) (Or.inl ⟨by kernel_rfl, ?_⟩) hS ?_
            · intro w5 hSw
              have h0 := (HU2.out.trans hSw).cell HK2.out
              clear hSw hS
              go_simp
            simp only [Act.put, List.setIfInBounds_toArray, List.set_cons_zero, List.set_cons_succ]
            refine wpAnyH_take (i := 5) (oi := { dst := some 139, op := Go.Op.convert 41 9 (Go.Operand.tmp 138), type := 9, pos := "outright.go:145", after := #[{ on := 4, ground := Go.Ground.data }], guard := none }) (v := .string ⟨xx.toArray⟩) rfl (by kernel_rfl) (by kernel_rfl) (by kernel_rfl) (fun _ _ _ h => h) (Or.inl ⟨by kernel_rfl, ?_⟩) hS ?_
            · intro w5 hSw
              have h0 := conv_sb2 (HS1.out.up (HU2.out.trans hSw))
              clear hSw hS
              go_simp
            simp only [Act.put, List.setIfInBounds_toArray, List.set_cons_zero, List.set_cons_succ]
            refine wpAnyH_take (i := 6) (oi := { dst := some 140, op := Go.Op.move (Go.Operand.tmp 6), type := 41, pos := "outright.go:145", after := #[], guard := none }) (v := .slice aN now.length cN) rfl (by kernel_rfl) (by kernel_rfl) (by kernel_rfl) (fun _ _ _ h => h) (Or.inl ⟨by kernel_rfl, ?_⟩) hS ?_
            · intro w5 hSw
              clear hSw hS
              go_simp
            simp only [Act.put, List.setIfInBounds_toArray, List.set_cons_zero, List.set_cons_succ]
            refine wpAnyH_take (i := 7) (oi := { dst := some 141, op := Go.Op.convert 41 9 (Go.Operand.tmp 140), type := 9, pos := "outright.go:145", after := #[{ on := 6, ground := Go.Ground.data }], guard := none }) (v := .string ⟨now.toArray⟩) rfl (by kernel_rfl) (by kernel_rfl) (by kernel_rfl) (fun _ _ _ h => h) (Or.inl ⟨by kernel_rfl, ?_⟩) hS ?_
            · intro w5 hSw
              have h0 := conv_sb2 (HWN.out.up (HU2.out.trans hSw))
              clear hSw hS
              go_simp
            simp only [Act.put, List.setIfInBounds_toArray, List.set_cons_zero, List.set_cons_succ]
            refine wpAnyH_take (i := 8) (oi := { dst := some 142, op := Go.Op.binOp Go.BinOp.eql 9 (Go.Operand.tmp 139) (Go.Operand.tmp 141) 9, type := 4, pos := "outright.go:145", after := #[{ on := 5, ground := Go.Ground.data }, { on := 7, ground := Go.Ground.data }], guard := none }) (v := .bool qN) rfl (by kernel_rfl) (by kernel_rfl) (by kernel_rfl) (fun _ _ _ h => h) (Or.inl ⟨by kernel_rfl, ?_⟩) hS ?_
            · intro w5 hSw
              have h0 := HQN.out
              have h1 := eq_of_b HQN.out
              clear hSw hS
              go_simp
            simp only [Act.put, List.setIfInBounds_toArray, List.set_cons_zero, List.set_cons_succ]
            refine wpAnyH_ready (rs := [9]) (by kernel_rfl) (by simp) ?_
            refine AllReadyH.cons (o := { dst := some 19, op := Go.Op.assign (Go.Operand.tmp 142), type := 4, pos := "outright.go:145", after := #[{ on := 8, ground := Go.Ground.data }, { on := 0, ground := Go.Ground.phase }, { on := 1, ground := Go.Ground.phase }, { on := 2, ground := Go.Ground.phase }, { on := 3, ground := Go.Ground.phase }, { on := 4, ground := Go.Ground.phase }, { on := 5, ground := Go.Ground.phase }, { on := 6, ground := Go.Ground.phase }, { on := 7, ground := Go.Ground.phase }, { on := 8, ground := Go.Ground.phase }], guard := none }) rfl (fun K hK => ?_) AllReadyH.nil
            rw [if_pos (by kernel_rfl)]
            go_simp
            refine hK.out _ _ hS (fun hS => ?_)
            clear hK K
            have HU3b := Hid.of (HU2.out.trans hS)
            clear hS
            refine wpAnyH_done (by kernel_rfl) ?_ _
            go_wp2
            go_ret
            exact ⟨rfl, (HUp.out.trans HU3b.out)⟩
          | false =>
            obtain rfl : true = qN := by
              rcases hb with h | h
              · cases h
              · exact h.symm
            refine wp_region_held_drew (S := fun w2 => Up wr w2) (by kernel_rfl) (Up.refl _).drew (fun hS => ?_)
            refine wpAnyH_take (i := 0) (oi := { dst := some 125, op := Go.Op.move (Go.Operand.tmp 15), type := 32, pos := "outright.go:144", after := #[], guard := none }) (v := .slice (some ⟨b1, o1, none⟩) m c1) rfl (by kernel_rfl) (by kernel_rfl) (by kernel_rfl) (fun _ _ _ h => h) (Or.inl ⟨by kernel_rfl, ?_⟩) hS ?_
            · intro w5 hSw
              clear hSw hS
              go_simp
            simp only [Act.put, List.setIfInBounds_toArray, List.set_cons_zero, List.set_cons_succ]
            refine wpAnyH_take (i := 1) (oi := { dst := some 126, op := Go.Op.move (Go.Operand.tmp 17), type := 3, pos := "outright.go:144", after := #[], guard := none }) (v := .int .i64 (i : Int)) rfl (by kernel_rfl) (by kernel_rfl) (by kernel_rfl) (fun _ _ _ h => h) (Or.inl ⟨by kernel_rfl, ?_⟩) hS ?_
            · intro w5 hSw
              clear hSw hS
              go_simp
            simp only [Act.put, List.setIfInBounds_toArray, List.set_cons_zero, List.set_cons_succ]
            refine wpAnyH_take (i := 2) (oi := { dst := some 127, op := Go.Op.indexAddr 32 (Go.Operand.tmp 125) (Go.Operand.tmp 126), type := 0, pos := "outright.go:144", after := #[{ on := 0, ground := Go.Ground.data }, { on := 1, ground := Go.Ground.data }], guard := none }) (v := .pointer (some ⟨b1, o1 + i * 2, none⟩)) rfl (by kernel_rfl) (by kernel_rfl) (by kernel_rfl) (fun _ _ _ h => h) (Or.inl ⟨by kernel_rfl, ?_⟩) hS ?_
            · intro w5 hSw
              clear hSw hS
              exact exec_idxFile i hlt rfl rfl rfl
            simp only [Act.put, List.setIfInBounds_toArray, List.set_cons_zero, List.set_cons_succ]
            refine wpAnyH_take (i := 3) (oi := { dst := some 128, op := Go.Op.fieldAddr 49 (Go.Operand.tmp 127) 1, type := 0, pos := "outright.go:144", after := #[{ on := 2, ground := Go.Ground.data }], guard := none }) (v := .pointer (some ⟨b1, o1 + i * 2 + 1, none⟩)) rfl (by kernel_rfl) (by kernel_rfl) (by kernel_rfl) (fun _ _ _ h => h) (Or.inl ⟨by kernel_rfl, ?_⟩) hS ?_
            · intro w5 hSw
              clear hSw hS
              go_simp
            simp only [Act.put, List.setIfInBounds_toArray, List.set_cons_zero, List.set_cons_succ]
            refine wpAnyH_take (i := 4) (oi := { dst := some 129, op := Go.Op.load 41 (Go.Operand.tmp 128), type := 41, pos := "outright.go:144", after := #[{ on := 3, ground := Go.Ground.data }], guard := none }) (v := .slice ak xx.length ck) rfl (by kernel_rfl) (by kernel_rfl) (by kernel_rfl) (fun _ _ _ h => h) (Or.inl ⟨by kernel_rfl, ?_⟩) hS ?_
            · intro w5 hSw
              have h0 := (HU.out.trans hSw).cell HK2.out
              clear hSw hS
              go_simp
            simp only [Act.put, List.setIfInBounds_toArray, List.set_cons_zero, List.set_cons_succ]
            refine wpAnyH_take (i := 5) (oi := { dst := some 130, op := Go.Op.convert 41 9 (Go.Operand.tmp 129), type := 9, pos := "outright.go:144", after := #[{ on := 4, ground := Go.Ground.data }], guard := none }) (v := .string ⟨xx.toArray⟩) rfl (by kernel_rfl) (by kernel_rfl) (by kernel_rfl) (fun _ _ _ h => h) (Or.inl ⟨by kernel_rfl, ?_⟩) hS ?_
            · intro w5 hSw
              have h0 := conv_sb2 (HS1.out.up (HU.out.trans hSw))
              clear hSw hS
              go_simp
            simp only [Act.put, List.setIfInBounds_toArray, List.set_cons_zero, List.set_cons_succ]
            refine wpAnyH_take (i := 6) (oi := { dst := some 131, op := Go.Op.move (Go.Operand.tmp 5), type := 41, pos := "outright.go:144", after := #[], guard := none }) (v := .slice aO old.length cO) rfl (by kernel_rfl) (by kernel_rfl) (by kernel_rfl) (fun _ _ _ h => h) (Or.inl ⟨by kernel_rfl, ?_⟩) hS ?_
            · intro w5 hSw
              clear hSw hS
              go_simp
            simp only [Act.put, List.setIfInBounds_toArray, List.set_cons_zero, List.set_cons_succ]
            refine wpAnyH_take (i := 7) (oi := { dst := some 132, op := Go.Op.convert 41 9 (Go.Operand.tmp 131), type := 9, pos := "outright.go:144", after := #[{ on := 6, ground := Go.Ground.data }], guard := none }) (v := .string ⟨old.toArray⟩) rfl (by kernel_rfl) (by kernel_rfl) (by kernel_rfl) (fun _ _ _ h => h) (Or.inl ⟨by kernel_rfl, ?_⟩) hS ?_
            · intro w5 hSw
              have h0 := conv_sb2 (HWO.out.up (HU.out.trans hSw))
              clear hSw hS
              go_simp
            simp only [Act.put, List.setIfInBounds_toArray, List.set_cons_zero, List.set_cons_succ]
            refine wpAnyH_take (i := 8) (oi := { dst := some 133, op := Go.Op.binOp Go.BinOp.eql 9 (Go.Operand.tmp 130) (Go.Operand.tmp 132) 9, type := 4, pos := "outright.go:144", after := #[{ on := 5, ground := Go.Ground.data }, { on := 7, ground := Go.Ground.data }], guard := none }) (v := .bool false) rfl (by kernel_rfl) (by kernel_rfl) (by kernel_rfl) (fun _ _ _ h => h) (Or.inl ⟨by kernel_rfl, ?_⟩) hS ?_
            · intro w5 hSw
              have h0 := HQO.out
              have h1 := eq_of_b HQO.out
              clear hSw hS
              go_simp
            simp only [Act.put, List.setIfInBounds_toArray, List.set_cons_zero, List.set_cons_succ]
            refine wpAnyH_ready (rs := [9]) (by kernel_rfl) (by simp) ?_
            refine AllReadyH.cons (o := { dst := some 18, op := Go.Op.assign (Go.Operand.tmp 133), type := 4, pos := "outright.go:144", after := #[{ on := 8, ground := Go.Ground.data }, { on := 0, ground := Go.Ground.phase }, { on := 1, ground := Go.Ground.phase }, { on := 2, ground := Go.Ground.phase }, { on := 3, ground := Go.Ground.phase }, { on := 4, ground := Go.Ground.phase }, { on := 5, ground := Go.Ground.phase }, { on := 6, ground := Go.Ground.phase }, { on := 7, ground := Go.Ground.phase }, { on := 8, ground := Go.Ground.phase }], guard := none }) rfl (fun K hK => ?_) AllReadyH.nil
            rw [if_pos (by kernel_rfl)]
            go_simp
            refine hK.out _ _ hS (fun hS => ?_)
            clear hK K
            have HU2 := Hid.of (HU.out.trans hS)
            clear hS
            refine wpAnyH_done (by kernel_rfl) ?_ _
            go_wp2
            refine wp_region_held_drew (S := fun w2 => Up wr.drew w2) (by kernel_rfl) (Up.refl _).drew (fun hS => ?_)
            refine wpAnyH_take (i := 0) (oi := { dst := some 134, op := Go.Op.move (Go.Operand.tmp 15), type := 32, pos := "outright.go:145", after := #[], guard := none }) (v := .slice (some ⟨b1, o1, none⟩) m c1) rfl (by kernel_rfl) (by kernel_rfl) (by kernel_rfl) (fun _ _ _ h => h) (Or.inl ⟨by kernel_rfl, ?_⟩) hS ?_
            · intro w5 hSw
              clear hSw hS
              go_simp
            simp only [Act.put, List.setIfInBounds_toArray, List.set_cons_zero, List.set_cons_succ]
            refine wpAnyH_take (i := 1) (oi := { dst := some 135, op := Go.Op.move (Go.Operand.tmp 17), type := 3, pos := "outright.go:145", after := #[], guard := none }) (v := .int .i64 (i : Int)) rfl (by kernel_rfl) (by kernel_rfl) (by kernel_rfl) (fun _ _ _ h => h) (Or.inl ⟨by kernel_rfl, ?_⟩) hS ?_
            · intro w5 hSw
              clear hSw hS
              go_simp
            simp only [Act.put, List.setIfInBounds_toArray, List.set_cons_zero, List.set_cons_succ]
            refine wpAnyH_take (i := 2) (oi := { dst := some 136, op := Go.Op.indexAddr 32 (Go.Operand.tmp 134) (Go.Operand.tmp 135), type := 0, pos := "outright.go:145", after := #[{ on := 0, ground := Go.Ground.data }, { on := 1, ground := Go.Ground.data }], guard := none }) (v := .pointer (some ⟨b1, o1 + i * 2, none⟩)) rfl (by kernel_rfl) (by kernel_rfl) (by kernel_rfl) (fun _ _ _ h => h) (Or.inl ⟨by kernel_rfl, ?_⟩) hS ?_
            · intro w5 hSw
              clear hSw hS
              exact exec_idxFile i hlt rfl rfl rfl
            simp only [Act.put, List.setIfInBounds_toArray, List.set_cons_zero, List.set_cons_succ]
            refine wpAnyH_take (i := 3) (oi := { dst := some 137, op := Go.Op.fieldAddr 49 (Go.Operand.tmp 136) 1, type := 0, pos := "outright.go:145", after := #[{ on := 2, ground := Go.Ground.data }], guard := none }) (v := .pointer (some ⟨b1, o1 + i * 2 + 1, none⟩)) rfl (by kernel_rfl) (by kernel_rfl) (by kernel_rfl) (fun _ _ _ h => h) (Or.inl ⟨by kernel_rfl, ?_⟩) hS ?_
            · intro w5 hSw
              clear hSw hS
              go_simp
            simp only [Act.put, List.setIfInBounds_toArray, List.set_cons_zero, List.set_cons_succ]
            refine wpAnyH_take (i := 4) (oi := { dst := some 138, op := Go.Op.load 41 (Go.Operand.tmp 137), type := 41, pos := "outright.go:145", after := #[{ on := 3, ground := Go.Ground.data }], guard := none }) (v := .slice ak xx.length ck) rfl (by kernel_rfl) (by kernel_rfl) (by kernel_rfl) (fun _ _ _ h => h) (Or.inl ⟨by kernel_rfl, ?_⟩) hS ?_
            · intro w5 hSw
              have h0 := (HU2.out.trans hSw).cell HK2.out
              clear hSw hS
              go_simp
            simp only [Act.put, List.setIfInBounds_toArray, List.set_cons_zero, List.set_cons_succ]
            refine wpAnyH_take (i := 5) (oi := { dst := some 139, op := Go.Op.convert 41 9 (Go.Operand.tmp 138), type := 9, pos := "outright.go:145", after := #[{ on := 4, ground := Go.Ground.data }], guard := none }) (v := .string ⟨xx.toArray⟩) rfl (by kernel_rfl) (by kernel_rfl) (by kernel_rfl) (fun _ _ _ h => h) (Or.inl ⟨by kernel_rfl, ?_⟩) hS ?_
            · intro w5 hSw
              have h0 := conv_sb2 (HS1.out.up (HU2.out.trans hSw))
              clear hSw hS
              go_simp
            simp only [Act.put, List.setIfInBounds_toArray, List.set_cons_zero, List.set_cons_succ]
            refine wpAnyH_take (i := 6) (oi := { dst := some 140, op := Go.Op.move (Go.Operand.tmp 6), type := 41, pos := "outright.go:145", after := #[], guard := none }) (v := .slice aN now.length cN) rfl (by kernel_rfl) (by kernel_rfl) (by kernel_rfl) (fun _ _ _ h => h) (Or.inl ⟨by kernel_rfl, ?_⟩) hS ?_
            · intro w5 hSw
              clear hSw hS
              go_simp
            simp only [Act.put, List.setIfInBounds_toArray, List.set_cons_zero, List.set_cons_succ]
            refine wpAnyH_take (i := 7) (oi := { dst := some 141, op := Go.Op.convert 41 9 (Go.Operand.tmp 140), type := 9, pos := "outright.go:145", after := #[{ on := 6, ground := Go.Ground.data }], guard := none }) (v := .string ⟨now.toArray⟩) rfl (by kernel_rfl) (by kernel_rfl) (by kernel_rfl) (fun _ _ _ h => h) (Or.inl ⟨by kernel_rfl, ?_⟩) hS ?_
            · intro w5 hSw
              have h0 := conv_sb2 (HWN.out.up (HU2.out.trans hSw))
              clear hSw hS
              go_simp
            simp only [Act.put, List.setIfInBounds_toArray, List.set_cons_zero, List.set_cons_succ]
            refine wpAnyH_take (i := 8) (oi := { dst := some 142, op := Go.Op.binOp Go.BinOp.eql 9 (Go.Operand.tmp 139) (Go.Operand.tmp 141) 9, type := 4, pos := "outright.go:145", after := #[{ on := 5, ground := Go.Ground.data }, { on := 7, ground := Go.Ground.data }], guard := none }) (v := .bool true) rfl (by kernel_rfl) (by kernel_rfl) (by kernel_rfl) (fun _ _ _ h => h) (Or.inl ⟨by kernel_rfl, ?_⟩) hS ?_
            · intro w5 hSw
              have h0 := HQN.out
              have h1 := eq_of_b HQN.out
              clear hSw hS
              go_simp
            simp only [Act.put, List.setIfInBounds_toArray, List.set_cons_zero, List.set_cons_succ]
            refine wpAnyH_ready (rs := [9]) (by kernel_rfl) (by simp) ?_
            refine AllReadyH.cons (o := { dst := some 19, op := Go.Op.assign (Go.Operand.tmp 142), type := 4, pos := "outright.go:145", after := #[{ on := 8, ground := Go.Ground.data }, { on := 0, ground := Go.Ground.phase }, { on := 1, ground := Go.Ground.phase }, { on := 2, ground := Go.Ground.phase }, { on := 3, ground := Go.Ground.phase }, { on := 4, ground := Go.Ground.phase }, { on := 5, ground := Go.Ground.phase }, { on := 6, ground := Go.Ground.phase }, { on := 7, ground := Go.Ground.phase }, { on := 8, ground := Go.Ground.phase }], guard := none }) rfl (fun K hK => ?_) AllReadyH.nil
            rw [if_pos (by kernel_rfl)]
            go_simp
            refine hK.out _ _ hS (fun hS => ?_)
            clear hK K
            have HU3b := Hid.of (HU2.out.trans hS)
            clear hS
            refine wpAnyH_done (by kernel_rfl) ?_ _
            go_wp2
            go_ret
            exact ⟨rfl, (HUp.out.trans HU3b.out)⟩
        · have HE := Hid.of he
          obtain ⟨y, hy⟩ : ∃ y : List UInt8, g.nm = ⟨y.toArray⟩ := ⟨g.nm.data.toList, rfl⟩
          rw [hy] at k1
          have hq : (y == [104, 101, 97, 100]) = false := by
            rw [beq_eq_false_iff_ne]
            exact fun e => he (by rw [hy, e])
          clear he hy
          go_wp2
          go_roundw
          all_goals first
            | exact ⟨i + 1, by go_num, by omega, Hid.of ⟨HU.out, fun j h hj => HNx.out j h hj HE.out⟩⟩
            | (simp [intOf]; omega)
      · exfalso
        obtain ⟨g, hg, e⟩ := List.mem_map.1 HMem.out
        obtain ⟨j, hj, rfl⟩ := List.mem_iff_getElem.1 hg
        refine HNe.out j hj (by have := HM.out; omega) ?_
        exact ByteArray.ext (Array.toList_inj.1 (congrArg Prod.fst e))
  · rw [show sw 5 (0 + 1) = 0 by decide, show sw 5 (1 + 1) = 0 by decide, show sw 5 (2 + 1) = 0 by decide, show sw 5 (3 + 1) = 0 by decide, show sw 5 (4 + 1) = 125 by decide]
    have HQ := Hid.of (show QS old now 5 r5 from HW18.out.2.q)
    have c3 := (HB3.out.up HW18.out.1.up).cell (i := 3) rfl
    have HAf := Hid.of (after_gen _ D _ 2097152 r5 (.slice ac cs.length cc) cs w18 HW18.out.1.ok (HC.out.up (HU3.out.trans HW18.out.1.up)) (HW18.out.1.iv.cf (by omega)) (by have := HW18.out.1.iv.n0; omega) hcl (by omega))
    go_wp2_with fail
    refine HAf.out.mono ?_
    rintro e w19 ⟨a19, fs, c1, gs, ws, rfl, o19, f19, k19, l19, q19⟩
    obtain ⟨xx, hx1, hx2, hx3, hx4⟩ := HQ.out.found (by decide) l19 HW18.out.1.ok.nD
    have HMem := Hid.of (show (hdN.data.toList, xx) ∈ fs.map pr by rw [q19]; exact hx1)
    have HNd := Hid.of (show ((fs.map pr).map Prod.fst).Nodup by rw [q19]; exact srF_nd l19.ndl)
    have HFs := Hid.of o19
    obtain ⟨m, hm⟩ : ∃ m, fs.length = m := ⟨_, rfl⟩
    have HM := Hid.of hm
    have hcap := o19.fsl.cap
    rw [hm] at hcap
    rw [hm]
    have hmB : m ≤ 1000 := by
      have h5 := congrArg List.length q19
      rw [List.length_map, (srF_perm l19.ndl).length_eq, lfs_len, hm] at h5
      have h6 := l19.len (HW18.out.1.iv.cf (by omega))
      have h7 := HW18.out.1.iv.cnt
      omega
    have HUp := Hid.of (up_disk (s := r5) (HU3.out.trans HW18.out.1.up) (fun k hk => Nat.le_trans HU3.out.size (HW18.out.1.lo k hk)) (f19.weak (fun _ hb => hb ▸ .inl rfl)))
    have HUw := Hid.of (up_disk (s := r5) HW18.out.1.up HW18.out.1.lo (f19.weak (fun _ hb => hb ▸ .inl rfl)))
    have HWO := Hid.of (HO5b.out.up HUw.out)
    have HWN := Hid.of (HO6.out.up HUw.out)
    obtain ⟨qO, hqO⟩ : ∃ q, (xx == old) = q := ⟨_, rfl⟩
    obtain ⟨qN, hqN⟩ : ∃ q, (xx == now) = q := ⟨_, rfl⟩
    have HQO := Hid.of hqO
    have HQN := Hid.of hqN
    have hb : true = qN := by
      rw [← hqN, hx3 rfl, beq_self_eq_true]
    clear hqO hqN hx1 hx2 hx3 hx4 hm o19 f19 k19 l19 q19 HAf HQ c3
    dsimp only
    subst hb
    go_wp2
    go_loopw [17] (fun v17 wr => ∃ i : Nat, v17 = .int .i64 (i : Int) ∧ i ≤ m ∧ Hid (Up w19 wr ∧ ∀ j (h : j < fs.length), j < i → fs[j].nm ≠ hdN)) (fun v17 _ => m - (intOf v17).toNat)
    case atStart => exact ⟨0, rfl, by omega, Hid.of ⟨Up.refl _, fun j _ h => by omega⟩⟩
    case round =>
      obtain ⟨i, rfl, hi, hU⟩ := hrel
      have HU := Hid.of hU.out.1
      have HNe := Hid.of hU.out.2
      clear hU
      by_cases hlt : i < m
      · have hz : (i : Int) < (m : Int) := by omega
        have hf : i < fs.length := by rw [HM.out]; exact hlt
        obtain ⟨b1, o1, rfl, k1, k2⟩ := HFs.out.fsl.cells i hf
        have HS0 := Hid.of (HFs.out.fsl.sb _ (List.getElem_mem hf))
        obtain ⟨g, hg⟩ : ∃ g, fs[i] = g := ⟨_, rfl⟩
        have HNx := Hid.of (show ∀ j (h : j < fs.length), j < i + 1 → fs[i].nm ≠ hdN → fs[j].nm ≠ hdN from fun j h hj hne => by
          rcases Nat.lt_or_ge j i with h5 | h5
          · exact HNe.out j h h5
          · obtain rfl : j = i := by omega
            exact hne)
        have HXx := Hid.of (show fs[i].nm = hdN → fs[i].ds = xx from fun he => by
          have h5 : (hdN.data.toList, fs[i].ds) ∈ fs.map pr := List.mem_map.2 ⟨fs[i], List.getElem_mem hf, by unfold pr; rw [he]⟩
          exact nd_val HNd.out h5 HMem.out)
        rw [hg] at k1 k2 HS0 HXx HNx
        have k1 := HU.out.cell k1
        by_cases he : g.nm = hdN
        · have hx := HXx.out he
          rw [he] at k1
          rw [hx] at HS0
          obtain ⟨ak, ck, hgv, _⟩ := id HS0.out
          rw [hgv] at k2 HS0
          have HK2 := Hid.of k2
          have HS1 := Hid.of HS0.out
          clear k2 hgv hx hg HXx HNx HNe HS0
          go_wp2
          refine wp_region_held_drew (S := fun w2 => Up wr w2) (by kernel_rfl) (Up.refl _).drew (fun hS => ?_)
          refine wpAnyH_take (i := 0) (oi := { dst := some 125, op := Go.Op.move (Go.Operand.tmp 15), type := 32, pos := "outright.go:144", after := #[], guard := none }) (v := .slice (some ⟨b1, o1, none⟩) m c1) rfl (by kernel_rfl) (by kernel_rfl) (by kernel_rfl) (fun _ _ _ h => h) (Or.inl ⟨by kernel_rfl, ?_⟩) hS ?_
          · intro w5 hSw
            clear hSw hS
            go_simp
          simp only [Act.put, List.setIfInBounds_toArray, List.set_cons_zero, List.set_cons_succ]
          refine wpAnyH_take (i := 1) (oi := { dst := some 126, op := Go.Op.move (Go.Operand.tmp 17), type := 3, pos := "outright.go:144", after := #[], guard := none }) (v := .int .i64 (i : Int)) rfl (by kernel_rfl) (by kernel_rfl) (by kernel_rfl) (fun _ _ _ h => h) (Or.inl ⟨by kernel_rfl, ?_⟩) hS ?_
          · intro w5 hSw
            clear hSw hS
            go_simp
          simp only [Act.put, List.setIfInBounds_toArray, List.set_cons_zero, List.set_cons_succ]
          refine wpAnyH_take (i := 2) (oi := { dst := some 127, op := Go.Op.indexAddr 32 (Go.Operand.tmp 125) (Go.Operand.tmp 126), type := 0, pos := "outright.go:144", after := #[{ on := 0, ground := Go.Ground.data }, { on := 1, ground := Go.Ground.data }], guard := none }) (v := .pointer (some ⟨b1, o1 + i * 2, none⟩)) rfl (by kernel_rfl) (by kernel_rfl) (by kernel_rfl) (fun _ _ _ h => h) (Or.inl ⟨by kernel_rfl, ?_⟩) hS ?_
          · intro w5 hSw
            clear hSw hS
            exact exec_idxFile i hlt rfl rfl rfl
          simp only [Act.put, List.setIfInBounds_toArray, List.set_cons_zero, List.set_cons_succ]
          refine wpAnyH_take (i := 3) (oi := { dst := some 128, op := Go.Op.fieldAddr 49 (Go.Operand.tmp 127) 1, type := 0, pos := "outright.go:144", after := #[{ on := 2, ground := Go.Ground.data }], guard := none }) (v := .pointer (some ⟨b1, o1 + i * 2 + 1, none⟩)) rfl (by kernel_rfl) (by kernel_rfl) (by kernel_rfl) (fun _ _ _ h => h) (Or.inl ⟨by kernel_rfl, ?_⟩) hS ?_
          · intro w5 hSw
            clear hSw hS
            go_simp
          simp only [Act.put, List.setIfInBounds_toArray, List.set_cons_zero, List.set_cons_succ]
          refine wpAnyH_take (i := 4) (oi := { dst := some 129, op := Go.Op.load 41 (Go.Operand.tmp 128), type := 41, pos := "outright.go:144", after := #[{ on := 3, ground := Go.Ground.data }], guard := none }) (v := .slice ak xx.length ck) rfl (by kernel_rfl) (by kernel_rfl) (by kernel_rfl) (fun _ _ _ h => h) (Or.inl ⟨by kernel_rfl, ?_⟩) hS ?_
          · intro w5 hSw
            have h0 := (HU.out.trans hSw).cell HK2.out
            clear hSw hS
            go_simp
          simp only [Act.put, List.setIfInBounds_toArray, List.set_cons_zero, List.set_cons_succ]
          refine wpAnyH_take (i := 5) (oi := { dst := some 130, op := Go.Op.convert 41 9 (Go.Operand.tmp 129), type := 9, pos := "outright.go:144", after := #[{ on := 4, ground := Go.Ground.data }], guard := none }) (v := .string ⟨xx.toArray⟩) rfl (by kernel_rfl) (by kernel_rfl) (by kernel_rfl) (fun _ _ _ h => h) (Or.inl ⟨by kernel_rfl, ?_⟩) hS ?_
          · intro w5 hSw
            have h0 := conv_sb2 (HS1.out.up (HU.out.trans hSw))
            clear hSw hS
            go_simp
          simp only [Act.put, List.setIfInBounds_toArray, List.set_cons_zero, List.set_cons_succ]
          refine wpAnyH_take (i := 6) (oi := { dst := some 131, op := Go.Op.move (Go.Operand.tmp 5), type := 41, pos := "outright.go:144", after := #[], guard := none }) (v := .slice aO old.length cO) rfl (by kernel_rfl) (by kernel_rfl) (by kernel_rfl) (fun _ _ _ h => h) (Or.inl ⟨by kernel_rfl, ?_⟩) hS ?_
          · intro w5 hSw
            clear hSw hS
            go_simp
          simp only [Act.put, List.setIfInBounds_toArray, List.set_cons_zero, List.set_cons_succ]
          refine wpAnyH_take (i := 7) (oi := { dst := some 132, op := Go.Op.convert 41 9 (Go.Operand.tmp 131), type := 9, pos := "outright.go:144", after := #[{ on := 6, ground := Go.Ground.data }], guard := none }) (v := .string ⟨old.toArray⟩) rfl (by kernel_rfl) (by kernel_rfl) (by kernel_rfl) (fun _ _ _ h => h) (Or.inl ⟨by kernel_rfl, ?_⟩) hS ?_
          · intro w5 hSw
            have h0 := conv_sb2 (HWO.out.up (HU.out.trans hSw))
            clear hSw hS
            go_simp
          simp only [Act.put, List.setIfInBounds_toArray, List.set_cons_zero, List.set_cons_succ]
          refine wpAnyH_take (i := 8) (oi := { dst := some 133, op := Go.Op.binOp Go.BinOp.eql 9 (Go.Operand.tmp 130) (Go.Operand.tmp 132) 9, type := 4, pos := "outright.go:144", after := #[{ on := 5, ground := Go.Ground.data }, { on := 7, ground := Go.Ground.data }], guard := none }) (v := .bool qO) rfl (by kernel_rfl) (by kernel_rfl) (by kernel_rfl) (fun _ _ _ h => h) (Or.inl ⟨by kernel_rfl, ?_⟩) hS ?_
          · intro w5 hSw
            have h0 := HQO.out
            have h1 := eq_of_b HQO.out
            clear hSw hS
            go_simp
          simp only [Act.put, List.setIfInBounds_toArray, List.set_cons_zero, List.set_cons_succ]
          refine wpAnyH_ready (rs := [9]) (by kernel_rfl) (by simp) ?_
          refine AllReadyH.cons (o := { dst := some 18, op := Go.Op.assign (Go.Operand.tmp 133), type := 4, pos := "outright.go:144", after := #[{ on := 8, ground := Go.Ground.data }, { on := 0, ground := Go.Ground.phase }, { on := 1, ground := Go.Ground.phase }, { on := 2, ground := Go.Ground.phase }, { on := 3, ground := Go.Ground.phase }, { on := 4, ground := Go.Ground.phase }, { on := 5, ground := Go.Ground.phase }, { on := 6, ground := Go.Ground.phase }, { on := 7, ground := Go.Ground.phase }, { on := 8, ground := Go.Ground.phase }], guard := none }) rfl (fun K hK => ?_) AllReadyH.nil
          rw [if_pos (by kernel_rfl)]
          go_simp
          refine hK.out _ _ hS (fun hS => ?_)
          clear hK K
          have HU2 := Hid.of (HU.out.trans hS)
          clear hS
          refine wpAnyH_done (by kernel_rfl) ?_ _
          go_wp2
          refine wp_region_held_drew (S := fun w2 => Up wr.drew w2) (by kernel_rfl) (Up.refl _).drew (fun hS => ?_)
          refine wpAnyH_take (i := 0) (oi := { dst := some 134, op := Go.Op.move (Go.Operand.tmp 15), type := 32, pos := "outright.go:145", after := #[], guard := none }) (v := .slice (some ⟨b1, o1, none⟩) m c1) rfl (by kernel_rfl) (by kernel_rfl) (by kernel_rfl) (fun _ _ _ h => h) (Or.inl ⟨by kernel_rfl, ?_⟩) hS ?_
          · intro w5 hSw
            clear hSw hS
            go_simp
          simp only [Act.put, List.setIfInBounds_toArray, List.set_cons_zero, List.set_cons_succ]
          refine wpAnyH_take (i := 1) (oi := { dst := some 135, op := Go.Op.move (Go.Operand.tmp 17), type := 3, pos := "outright.go:145", after := #[], guard := none }) (v := .int .i64 (i : Int)) rfl (by kernel_rfl) (by kernel_rfl) (by kernel_rfl) (fun _ _ _ h => h) (Or.inl ⟨by kernel_rfl, ?_⟩) hS ?_
          · intro w5 hSw
            clear hSw hS
            go_simp
          simp only [Act.put, List.setIfInBounds_toArray, List.set_cons_zero, List.set_cons_succ]
          refine wpAnyH_take (i := 2) (oi := { dst := some 136, op := Go.Op.indexAddr 32 (Go.Operand.tmp 134) (Go.Operand.tmp 135), type := 0, pos := "outright.go:145", after := #[{ on := 0, ground := Go.Ground.data }, { on := 1, ground := Go.Ground.data }], guard := none }) (v := .pointer (some ⟨b1, o1 + i * 2, none⟩)) rfl (by kernel_rfl) (by kernel_rfl) (by kernel_rfl) (fun _ _ _ h => h) (Or.inl ⟨by kernel_rfl, ?_⟩) hS ?_
          · intro w5 hSw
            clear hSw hS
            exact exec_idxFile i hlt rfl rfl rfl
          simp only [Act.put, List.setIfInBounds_toArray, List.set_cons_zero, List.set_cons_succ]
          refine wpAnyH_take (i := 3) (oi := { dst := some 137, op := Go.Op.fieldAddr 49 (Go.Operand.tmp 136) 1, type := 0, pos := "outright.go:145", after := #[{ on := 2, ground := Go.Ground.data }], guard := none }) (v := .pointer (some ⟨b1, o1 + i * 2 + 1, none⟩)) rfl (by kernel_rfl) (by kernel_rfl) (by kernel_rfl) (fun _ _ _ h => h) (Or.inl ⟨by kernel_rfl, ?_⟩) hS ?_
          · intro w5 hSw
            clear hSw hS
            go_simp
          simp only [Act.put, List.setIfInBounds_toArray, List.set_cons_zero, List.set_cons_succ]
          refine wpAnyH_take (i := 4) (oi := { dst := some 138, op := Go.Op.load 41 (Go.Operand.tmp 137), type := 41, pos := "outright.go:145", after := #[{ on := 3, ground := Go.Ground.data }], guard := none }) (v := .slice ak xx.length ck) rfl (by kernel_rfl) (by kernel_rfl) (by kernel_rfl) (fun _ _ _ h => h) (Or.inl ⟨by kernel_rfl, ?_⟩) hS ?_
          · intro w5 hSw
            have h0 := (HU2.out.trans hSw).cell HK2.out
            clear hSw hS
            go_simp
          simp only [Act.put, List.setIfInBounds_toArray, List.set_cons_zero, List.set_cons_succ]
          refine wpAnyH_take (i := 5) (oi := { dst := some 139, op := Go.Op.convert 41 9 (Go.Operand.tmp 138), type := 9, pos := "outright.go:145", after := #[{ on := 4, ground := Go.Ground.data }], guard := none }) (v := .string ⟨xx.toArray⟩) rfl (by kernel_rfl) (by kernel_rfl) (by kernel_rfl) (fun _ _ _ h => h) (Or.inl ⟨by kernel_rfl, ?_⟩) hS ?_
          · intro w5 hSw
            have h0 := conv_sb2 (HS1.out.up (HU2.out.trans hSw))
            clear hSw hS
            go_simp
          simp only [Act.put, List.setIfInBounds_toArray, List.set_cons_zero, List.set_cons_succ]
          refine wpAnyH_take (i := 6) (oi := { dst := some 140, op := Go.Op.move (Go.Operand.tmp 6), type := 41, pos := "outright.go:145", after := #[], guard := none }) (v := .slice aN now.length cN) rfl (by kernel_rfl) (by kernel_rfl) (by kernel_rfl) (fun _ _ _ h => h) (Or.inl ⟨by kernel_rfl, ?_⟩) hS ?_
          · intro w5 hSw
            clear hSw hS
            go_simp
          simp only [Act.put, List.setIfInBounds_toArray, List.set_cons_zero, List.set_cons_succ]
          refine wpAnyH_take (i := 7) (oi := { dst := some 141, op := Go.Op.convert 41 9 (Go.Operand.tmp 140), type := 9, pos := "outright.go:145", after := #[{ on := 6, ground := Go.Ground.data }], guard := none }) (v := .string ⟨now.toArray⟩) rfl (by kernel_rfl) (by kernel_rfl) (by kernel_rfl) (fun _ _ _ h => h) (Or.inl ⟨by kernel_rfl, ?_⟩) hS ?_
          · intro w5 hSw
            have h0 := conv_sb2 (HWN.out.up (HU2.out.trans hSw))
            clear hSw hS
            go_simp
          simp only [Act.put, List.setIfInBounds_toArray, List.set_cons_zero, List.set_cons_succ]
          refine wpAnyH_take (i := 8) (oi := { dst := some 142, op := Go.Op.binOp Go.BinOp.eql 9 (Go.Operand.tmp 139) (Go.Operand.tmp 141) 9, type := 4, pos := "outright.go:145", after := #[{ on := 5, ground := Go.Ground.data }, { on := 7, ground := Go.Ground.data }], guard := none }) (v := .bool true) rfl (by kernel_rfl) (by kernel_rfl) (by kernel_rfl) (fun _ _ _ h => h) (Or.inl ⟨by kernel_rfl, ?_⟩) hS ?_
          · intro w5 hSw
            have h0 := HQN.out
            have h1 := eq_of_b HQN.out
            clear hSw hS
            go_simp
          simp only [Act.put, List.setIfInBounds_toArray, List.set_cons_zero, List.set_cons_succ]
          refine wpAnyH_ready (rs := [9]) (by kernel_rfl) (by simp) ?_
          refine AllReadyH.cons (o := { dst := some 19, op := Go.Op.assign (Go.Operand.tmp 142), type := 4, pos := "outright.go:145", after := #[{ on := 8, ground := Go.Ground.data }, { on := 0, ground := Go.Ground.phase }, { on := 1, ground := Go.Ground.phase }, { on := 2, ground := Go.Ground.phase }, { on := 3, ground := Go.Ground.phase }, { on := 4, ground := Go.Ground.phase }, { on := 5, ground := Go.Ground.phase }, { on := 6, ground := Go.Ground.phase }, { on := 7, ground := Go.Ground.phase }, { on := 8, ground := Go.Ground.phase }], guard := none }) rfl (fun K hK => ?_) AllReadyH.nil
          rw [if_pos (by kernel_rfl)]
          go_simp
          refine hK.out _ _ hS (fun hS => ?_)
          clear hK K
          have HU3b := Hid.of (HU2.out.trans hS)
          clear hS
          refine wpAnyH_done (by kernel_rfl) ?_ _
          go_wp2
          go_ret
          exact ⟨rfl, (HUp.out.trans HU3b.out)⟩
        · have HE := Hid.of he
          obtain ⟨y, hy⟩ : ∃ y : List UInt8, g.nm = ⟨y.toArray⟩ := ⟨g.nm.data.toList, rfl⟩
          rw [hy] at k1
          have hq : (y == [104, 101, 97, 100]) = false := by
            rw [beq_eq_false_iff_ne]
            exact fun e => he (by rw [hy, e])
          clear he hy
          go_wp2
          go_roundw
          all_goals first
            | exact ⟨i + 1, by go_num, by omega, Hid.of ⟨HU.out, fun j h hj => HNx.out j h hj HE.out⟩⟩
            | (simp [intOf]; omega)
      · exfalso
        obtain ⟨g, hg, e⟩ := List.mem_map.1 HMem.out
        obtain ⟨j, hj, rfl⟩ := List.mem_iff_getElem.1 hg
        refine HNe.out j hj (by have := HM.out; omega) ?_
        exact ByteArray.ext (Array.toList_inj.1 (congrArg Prod.fst e))
  · rw [show sw 6 (0 + 1) = 0 by decide, show sw 6 (1 + 1) = 0 by decide, show sw 6 (2 + 1) = 0 by decide, show sw 6 (3 + 1) = 0 by decide, show sw 6 (4 + 1) = 0 by decide]
    have HQ := Hid.of (show QS old now 5 r5 from HW18.out.2.q)
    have c3 := (HB3.out.up HW18.out.1.up).cell (i := 3) rfl
    have HAf := Hid.of (after_gen _ D _ 2097152 r5 (.slice ac cs.length cc) cs w18 HW18.out.1.ok (HC.out.up (HU3.out.trans HW18.out.1.up)) (HW18.out.1.iv.cf (by omega)) (by have := HW18.out.1.iv.n0; omega) hcl (by omega))
    go_wp2_with fail
    refine HAf.out.mono ?_
    rintro e w19 ⟨a19, fs, c1, gs, ws, rfl, o19, f19, k19, l19, q19⟩
    obtain ⟨xx, hx1, hx2, hx3, hx4⟩ := HQ.out.found (by decide) l19 HW18.out.1.ok.nD
    have HMem := Hid.of (show (hdN.data.toList, xx) ∈ fs.map pr by rw [q19]; exact hx1)
    have HNd := Hid.of (show ((fs.map pr).map Prod.fst).Nodup by rw [q19]; exact srF_nd l19.ndl)
    have HFs := Hid.of o19
    obtain ⟨m, hm⟩ : ∃ m, fs.length = m := ⟨_, rfl⟩
    have HM := Hid.of hm
    have hcap := o19.fsl.cap
    rw [hm] at hcap
    rw [hm]
    have hmB : m ≤ 1000 := by
      have h5 := congrArg List.length q19
      rw [List.length_map, (srF_perm l19.ndl).length_eq, lfs_len, hm] at h5
      have h6 := l19.len (HW18.out.1.iv.cf (by omega))
      have h7 := HW18.out.1.iv.cnt
      omega
    have HUp := Hid.of (up_disk (s := r5) (HU3.out.trans HW18.out.1.up) (fun k hk => Nat.le_trans HU3.out.size (HW18.out.1.lo k hk)) (f19.weak (fun _ hb => hb ▸ .inl rfl)))
    have HUw := Hid.of (up_disk (s := r5) HW18.out.1.up HW18.out.1.lo (f19.weak (fun _ hb => hb ▸ .inl rfl)))
    have HWO := Hid.of (HO5b.out.up HUw.out)
    have HWN := Hid.of (HO6.out.up HUw.out)
    obtain ⟨qO, hqO⟩ : ∃ q, (xx == old) = q := ⟨_, rfl⟩
    obtain ⟨qN, hqN⟩ : ∃ q, (xx == now) = q := ⟨_, rfl⟩
    have HQO := Hid.of hqO
    have HQN := Hid.of hqN
    have hb : true = qN := by
      rw [← hqN, hx3 rfl, beq_self_eq_true]
    clear hqO hqN hx1 hx2 hx3 hx4 hm o19 f19 k19 l19 q19 HAf HQ c3
    dsimp only
    subst hb
    go_wp2
    go_loopw [17] (fun v17 wr => ∃ i : Nat, v17 = .int .i64 (i : Int) ∧ i ≤ m ∧ Hid (Up w19 wr ∧ ∀ j (h : j < fs.length), j < i → fs[j].nm ≠ hdN)) (fun v17 _ => m - (intOf v17).toNat)
    case atStart => exact ⟨0, rfl, by omega, Hid.of ⟨Up.refl _, fun j _ h => by omega⟩⟩
    case round =>
      obtain ⟨i, rfl, hi, hU⟩ := hrel
      have HU := Hid.of hU.out.1
      have HNe := Hid.of hU.out.2
      clear hU
      by_cases hlt : i < m
      · have hz : (i : Int) < (m : Int) := by omega
        have hf : i < fs.length := by rw [HM.out]; exact hlt
        obtain ⟨b1, o1, rfl, k1, k2⟩ := HFs.out.fsl.cells i hf
        have HS0 := Hid.of (HFs.out.fsl.sb _ (List.getElem_mem hf))
        obtain ⟨g, hg⟩ : ∃ g, fs[i] = g := ⟨_, rfl⟩
        have HNx := Hid.of (show ∀ j (h : j < fs.length), j < i + 1 → fs[i].nm ≠ hdN → fs[j].nm ≠ hdN from fun j h hj hne => by
          rcases Nat.lt_or_ge j i with h5 | h5
          · exact HNe.out j h h5
          · obtain rfl : j = i := by omega
            exact hne)
        have HXx := Hid.of (show fs[i].nm = hdN → fs[i].ds = xx from fun he => by
          have h5 : (hdN.data.toList, fs[i].ds) ∈ fs.map pr := List.mem_map.2 ⟨fs[i], List.getElem_mem hf, by unfold pr; rw [he]⟩
          exact nd_val HNd.out h5 HMem.out)
        rw [hg] at k1 k2 HS0 HXx HNx
        have k1 := HU.out.cell k1
        by_cases he : g.nm = hdN
        · have hx := HXx.out he
          rw [he] at k1
          rw [hx] at HS0
          obtain ⟨ak, ck, hgv, _⟩ := id HS0.out
          rw [hgv] at k2 HS0
          have HK2 := Hid.of k2
          have HS1 := Hid.of HS0.out
          clear k2 hgv hx hg HXx HNx HNe HS0
          go_wp2
          refine wp_region_held_drew (S := fun w2 => Up wr w2) (by kernel_rfl) (Up.refl _).drew (fun hS => ?_)
          refine wpAnyH_take (i := 0) (oi := { dst := some 125, op := Go.Op.move (Go.Operand.tmp 15), type := 32, pos := "outright.go:144", after := #[], guard := none }) (v := .slice (some ⟨b1, o1, none⟩) m c1) rfl (by kernel_rfl) (by kernel_rfl) (by kernel_rfl) (fun _ _ _ h => h) (Or.inl ⟨by kernel_rfl, ?_⟩) hS ?_
          · intro w5 hSw
            clear hSw hS
            go_simp
          simp only [Act.put, List.setIfInBounds_toArray, List.set_cons_zero, List.set_cons_succ]
          refine wpAnyH_take (i := 1) (oi := { dst := some 126, op := Go.Op.move (Go.Operand.tmp 17), type := 3, pos := "outright.go:144", after := #[], guard := none }) (v := .int .i64 (i : Int)) rfl (by kernel_rfl) (by kernel_rfl) (by kernel_rfl) (fun _ _ _ h => h) (Or.inl ⟨by kernel_rfl, ?_⟩) hS ?_
          · intro w5 hSw
            clear hSw hS
            go_simp
          simp only [Act.put, List.setIfInBounds_toArray, List.set_cons_zero, List.set_cons_succ]
          refine wpAnyH_take (i := 2) (oi := { dst := some 127, op := Go.Op.indexAddr 32 (Go.Operand.tmp 125) (Go.Operand.tmp 126), type := 0, pos := "outright.go:144", after := #[{ on := 0, ground := Go.Ground.data }, { on := 1, ground := Go.Ground.data }], guard := none }) (v := .pointer (some ⟨b1, o1 + i * 2, none⟩)) rfl (by kernel_rfl) (by kernel_rfl) (by kernel_rfl) (fun _ _ _ h => h) (Or.inl ⟨by kernel_rfl, ?_⟩) hS ?_
          · intro w5 hSw
            clear hSw hS
            exact exec_idxFile i hlt rfl rfl rfl
          simp only [Act.put, List.setIfInBounds_toArray, List.set_cons_zero, List.set_cons_succ]
          refine wpAnyH_take (i := 3) (oi := { dst := some 128, op := Go.Op.fieldAddr 49 (Go.Operand.tmp 127) 1, type := 0, pos := "outright.go:144", after := #[{ on := 2, ground := Go.Ground.data }], guard := none }) (v := .pointer (some ⟨b1, o1 + i * 2 + 1, none⟩)) rfl (by kernel_rfl) (by kernel_rfl) (by kernel_rfl) (fun _ _ _ h => h) (Or.inl ⟨by kernel_rfl, ?_⟩) hS ?_
          · intro w5 hSw
            clear hSw hS
            go_simp
          simp only [Act.put, List.setIfInBounds_toArray, List.set_cons_zero, List.set_cons_succ]
          refine wpAnyH_take (i := 4) (oi := { dst := some 129, op := Go.Op.load 41 (Go.Operand.tmp 128), type := 41, pos := "outright.go:144", after := #[{ on := 3, ground := Go.Ground.data }], guard := none }) (v := .slice ak xx.length ck) rfl (by kernel_rfl) (by kernel_rfl) (by kernel_rfl) (fun _ _ _ h => h) (Or.inl ⟨by kernel_rfl, ?_⟩) hS ?_
          · intro w5 hSw
            have h0 := (HU.out.trans hSw).cell HK2.out
            clear hSw hS
            go_simp
          simp only [Act.put, List.setIfInBounds_toArray, List.set_cons_zero, List.set_cons_succ]
          refine wpAnyH_take (i := 5) (oi := { dst := some 130, op := Go.Op.convert 41 9 (Go.Operand.tmp 129), type := 9, pos := "outright.go:144", after := #[{ on := 4, ground := Go.Ground.data }], guard := none }) (v := .string ⟨xx.toArray⟩) rfl (by kernel_rfl) (by kernel_rfl) (by kernel_rfl) (fun _ _ _ h => h) (Or.inl ⟨by kernel_rfl, ?_⟩) hS ?_
          · intro w5 hSw
            have h0 := conv_sb2 (HS1.out.up (HU.out.trans hSw))
            clear hSw hS
            go_simp
          simp only [Act.put, List.setIfInBounds_toArray, List.set_cons_zero, List.set_cons_succ]
          refine wpAnyH_take (i := 6) (oi := { dst := some 131, op := Go.Op.move (Go.Operand.tmp 5), type := 41, pos := "outright.go:144", after := #[], guard := none }) (v := .slice aO old.length cO) rfl (by kernel_rfl) (by kernel_rfl) (by kernel_rfl) (fun _ _ _ h => h) (Or.inl ⟨by kernel_rfl, ?_⟩) hS ?_
          · intro w5 hSw
            clear hSw hS
            go_simp
          simp only [Act.put, List.setIfInBounds_toArray, List.set_cons_zero, List.set_cons_succ]
          refine wpAnyH_take (i := 7) (oi := { dst := some 132, op := Go.Op.convert 41 9 (Go.Operand.tmp 131), type := 9, pos := "outright.go:144", after := #[{ on := 6, ground := Go.Ground.data }], guard := none }) (v := .string ⟨old.toArray⟩) rfl (by kernel_rfl) (by kernel_rfl) (by kernel_rfl) (fun _ _ _ h => h) (Or.inl ⟨by kernel_rfl, ?_⟩) hS ?_
          · intro w5 hSw
            have h0 := conv_sb2 (HWO.out.up (HU.out.trans hSw))
            clear hSw hS
            go_simp
          simp only [Act.put, List.setIfInBounds_toArray, List.set_cons_zero, List.set_cons_succ]
          refine wpAnyH_take (i := 8) (oi := { dst := some 133, op := Go.Op.binOp Go.BinOp.eql 9 (Go.Operand.tmp 130) (Go.Operand.tmp 132) 9, type := 4, pos := "outright.go:144", after := #[{ on := 5, ground := Go.Ground.data }, { on := 7, ground := Go.Ground.data }], guard := none }) (v := .bool qO) rfl (by kernel_rfl) (by kernel_rfl) (by kernel_rfl) (fun _ _ _ h => h) (Or.inl ⟨by kernel_rfl, ?_⟩) hS ?_
          · intro w5 hSw
            have h0 := HQO.out
            have h1 := eq_of_b HQO.out
            clear hSw hS
            go_simp
          simp only [Act.put, List.setIfInBounds_toArray, List.set_cons_zero, List.set_cons_succ]
          refine wpAnyH_ready (rs := [9]) (by kernel_rfl) (by simp) ?_
          refine AllReadyH.cons (o := { dst := some 18, op := Go.Op.assign (Go.Operand.tmp 133), type := 4, pos := "outright.go:144", after := #[{ on := 8, ground := Go.Ground.data }, { on := 0, ground := Go.Ground.phase }, { on := 1, ground := Go.Ground.phase }, { on := 2, ground := Go.Ground.phase }, { on := 3, ground := Go.Ground.phase }, { on := 4, ground := Go.Ground.phase }, { on := 5, ground := Go.Ground.phase }, { on := 6, ground := Go.Ground.phase }, { on := 7, ground := Go.Ground.phase }, { on := 8, ground := Go.Ground.phase }], guard := none }) rfl (fun K hK => ?_) AllReadyH.nil
          rw [if_pos (by kernel_rfl)]
          go_simp
          refine hK.out _ _ hS (fun hS => ?_)
          clear hK K
          have HU2 := Hid.of (HU.out.trans hS)
          clear hS
          refine wpAnyH_done (by kernel_rfl) ?_ _
          go_wp2
          refine wp_region_held_drew (S := fun w2 => Up wr.drew w2) (by kernel_rfl) (Up.refl _).drew (fun hS => ?_)
          refine wpAnyH_take (i := 0) (oi := { dst := some 134, op := Go.Op.move (Go.Operand.tmp 15), type := 32, pos := "outright.go:145", after := #[], guard := none }) (v := .slice (some ⟨b1, o1, none⟩) m c1) rfl (by kernel_rfl) (by kernel_rfl) (by kernel_rfl) (fun _ _ _ h => h) (Or.inl ⟨by kernel_rfl, ?_⟩) hS ?_
          · intro w5 hSw
            clear hSw hS
            go_simp
          simp only [Act.put, List.setIfInBounds_toArray, List.set_cons_zero, List.set_cons_succ]
          refine wpAnyH_take (i := 1) (oi := { dst := some 135, op := Go.Op.move (Go.Operand.tmp 17), type := 3, pos := "outright.go:145", after := #[], guard := none }) (v := .int .i64 (i : Int)) rfl (by kernel_rfl) (by kernel_rfl) (by kernel_rfl) (fun _ _ _ h => h) (Or.inl ⟨by kernel_rfl, ?_⟩) hS ?_
          · intro w5 hSw
            clear hSw hS
            go_simp
          simp only [Act.put, List.setIfInBounds_toArray, List.set_cons_zero, List.set_cons_succ]
          refine wpAnyH_take (i := 2) (oi := { dst := some 136, op := Go.Op.indexAddr 32 (Go.Operand.tmp 134) (Go.Operand.tmp 135), type := 0, pos := "outright.go:145", after := #[{ on := 0, ground := Go.Ground.data }, { on := 1, ground := Go.Ground.data }], guard := none }) (v := .pointer (some ⟨b1, o1 + i * 2, none⟩)) rfl (by kernel_rfl) (by kernel_rfl) (by kernel_rfl) (fun _ _ _ h => h) (Or.inl ⟨by kernel_rfl, ?_⟩) hS ?_
          · intro w5 hSw
            clear hSw hS
            exact exec_idxFile i hlt rfl rfl rfl
          simp only [Act.put, List.setIfInBounds_toArray, List.set_cons_zero, List.set_cons_succ]
          refine wpAnyH_take (i := 3) (oi := { dst := some 137, op := Go.Op.fieldAddr 49 (Go.Operand.tmp 136) 1, type := 0, pos := "outright.go:145", after := #[{ on := 2, ground := Go.Ground.data }], guard := none }) (v := .pointer (some ⟨b1, o1 + i * 2 + 1, none⟩)) rfl (by kernel_rfl) (by kernel_rfl) (by kernel_rfl) (fun _ _ _ h => h) (Or.inl ⟨by kernel_rfl, ?_⟩) hS ?_
          · intro w5 hSw
            clear hSw hS
            go_simp
          simp only [Act.put, List.setIfInBounds_toArray, List.set_cons_zero, List.set_cons_succ]
          refine wpAnyH_take (i := 4) (oi := { dst := some 138, op := Go.Op.load 41 (Go.Operand.tmp 137), type := 41, pos := "outright.go:145", after := #[{ on := 3, ground := Go.Ground.data }], guard := none }) (v := .slice ak xx.length ck) rfl (by kernel_rfl) (by kernel_rfl) (by kernel_rfl) (fun _ _ _ h => h) (Or.inl ⟨by kernel_rfl, ?_⟩) hS ?_
          · intro w5 hSw
            have h0 := (HU2.out.trans hSw).cell HK2.out
            clear hSw hS
            go_simp
          simp only [Act.put, List.setIfInBounds_toArray, List.set_cons_zero, List.set_cons_succ]
          refine wpAnyH_take (i := 5) (oi := { dst := some 139, op := Go.Op.convert 41 9 (Go.Operand.tmp 138), type := 9, pos := "outright.go:145", after := #[{ on := 4, ground := Go.Ground.data }], guard := none }) (v := .string ⟨xx.toArray⟩) rfl (by kernel_rfl) (by kernel_rfl) (by kernel_rfl) (fun _ _ _ h => h) (Or.inl ⟨by kernel_rfl, ?_⟩) hS ?_
          · intro w5 hSw
            have h0 := conv_sb2 (HS1.out.up (HU2.out.trans hSw))
            clear hSw hS
            go_simp
          simp only [Act.put, List.setIfInBounds_toArray, List.set_cons_zero, List.set_cons_succ]
          refine wpAnyH_take (i := 6) (oi := { dst := some 140, op := Go.Op.move (Go.Operand.tmp 6), type := 41, pos := "outright.go:145", after := #[], guard := none }) (v := .slice aN now.length cN) rfl (by kernel_rfl) (by kernel_rfl) (by kernel_rfl) (fun _ _ _ h => h) (Or.inl ⟨by kernel_rfl, ?_⟩) hS ?_
          · intro w5 hSw
            clear hSw hS
            go_simp
          simp only [Act.put, List.setIfInBounds_toArray, List.set_cons_zero, List.set_cons_succ]
          refine wpAnyH_take (i := 7) (oi := { dst := some 141, op := Go.Op.convert 41 9 (Go.Operand.tmp 140), type := 9, pos := "outright.go:145", after := #[{ on := 6, ground := Go.Ground.data }], guard := none }) (v := .string ⟨now.toArray⟩) rfl (by kernel_rfl) (by kernel_rfl) (by kernel_rfl) (fun _ _ _ h => h) (Or.inl ⟨by kernel_rfl, ?_⟩) hS ?_
          · intro w5 hSw
            have h0 := conv_sb2 (HWN.out.up (HU2.out.trans hSw))
            clear hSw hS
            go_simp
          simp only [Act.put, List.setIfInBounds_toArray, List.set_cons_zero, List.set_cons_succ]
          refine wpAnyH_take (i := 8) (oi := { dst := some 142, op := Go.Op.binOp Go.BinOp.eql 9 (Go.Operand.tmp 139) (Go.Operand.tmp 141) 9, type := 4, pos := "outright.go:145", after := #[{ on := 5, ground := Go.Ground.data }, { on := 7, ground := Go.Ground.data }], guard := none }) (v := .bool true) rfl (by kernel_rfl) (by kernel_rfl) (by kernel_rfl) (fun _ _ _ h => h) (Or.inl ⟨by kernel_rfl, ?_⟩) hS ?_
          · intro w5 hSw
            have h0 := HQN.out
            have h1 := eq_of_b HQN.out
            clear hSw hS
            go_simp
          simp only [Act.put, List.setIfInBounds_toArray, List.set_cons_zero, List.set_cons_succ]
          refine wpAnyH_ready (rs := [9]) (by kernel_rfl) (by simp) ?_
          refine AllReadyH.cons (o := { dst := some 19, op := Go.Op.assign (Go.Operand.tmp 142), type := 4, pos := "outright.go:145", after := #[{ on := 8, ground := Go.Ground.data }, { on := 0, ground := Go.Ground.phase }, { on := 1, ground := Go.Ground.phase }, { on := 2, ground := Go.Ground.phase }, { on := 3, ground := Go.Ground.phase }, { on := 4, ground := Go.Ground.phase }, { on := 5, ground := Go.Ground.phase }, { on := 6, ground := Go.Ground.phase }, { on := 7, ground := Go.Ground.phase }, { on := 8, ground := Go.Ground.phase }], guard := none }) rfl (fun K hK => ?_) AllReadyH.nil
          rw [if_pos (by kernel_rfl)]
          go_simp
          refine hK.out _ _ hS (fun hS => ?_)
          clear hK K
          have HU3b := Hid.of (HU2.out.trans hS)
          clear hS
          refine wpAnyH_done (by kernel_rfl) ?_ _
          go_wp2
          go_ret
          exact ⟨rfl, (HUp.out.trans HU3b.out)⟩
        · have HE := Hid.of he
          obtain ⟨y, hy⟩ : ∃ y : List UInt8, g.nm = ⟨y.toArray⟩ := ⟨g.nm.data.toList, rfl⟩
          rw [hy] at k1
          have hq : (y == [104, 101, 97, 100]) = false := by
            rw [beq_eq_false_iff_ne]
            exact fun e => he (by rw [hy, e])
          clear he hy
          go_wp2
          go_roundw
          all_goals first
            | exact ⟨i + 1, by go_num, by omega, Hid.of ⟨HU.out, fun j h hj => HNx.out j h hj HE.out⟩⟩
            | (simp [intOf]; omega)
      · exfalso
        obtain ⟨g, hg, e⟩ := List.mem_map.1 HMem.out
        obtain ⟨j, hj, rfl⟩ := List.mem_iff_getElem.1 hg
        refine HNe.out j hj (by have := HM.out; omega) ?_
        exact ByteArray.ext (Array.toList_inj.1 (congrArg Prod.fst e))
end Go.Proofs.YtaibjeehjhlicaaGreatDoor
