import Derived.Test.YtngagdfemdamdaaDoorDr
namespace Go.Proofs.YtngagdfemdamdaaDoor
open Go.RowKit Go.Shelf TextNum ModNum
set_option maxRecDepth 100000 in
set_option maxHeartbeats 16000000 in
theorem writes_walk (rm sy : Int) (v : Value) (ps : List PT) (w : World) (hP : PSl w v ps) (hG : ML w) (hV : 0 < w.heap.size) :
    Calls Tryd.prog 3 #[.int .i64 rm, v, .int .i64 sy] w fun e w' => e = .returned (.bool true) ∧ Up w w' := by
  obtain ⟨⟨a, c, rfl, hc, hcell⟩, hps⟩ := hP
  have HCell := Hid.of hcell
  have HPs := Hid.of hps
  have HW := Hid.of (within_walk rm w)
  have HG := Hid.of hG
  have HNew := fun (k : Nat) (h : k ≤ 4000) => Hid.of (New_walk k h w)
  clear hcell hps hG
  go_enter Tryd.func3, Tryd.ntmps3
  go_wp2_with fail
  refine HW.out.mono ?_
  rintro e w1 ⟨many, hmany, rfl, rfl⟩
  clear HW
  dsimp only
  go_wp2_with fail
  refine (HNew many hmany).out.mono ?_
  rintro e w2 ⟨D, M, L, rfl, a2, m2, bD, bM, u2⟩
  have HA2 := Hid.of a2
  have HM2 := Hid.of m2
  have HU2 := Hid.of u2
  clear a2 m2 u2 HNew
  dsimp only
  have HCr := Hid.of (Create_walk w1.heap.size D M many (.map (some L)) w2 (HG.out.up HU2.out) HU2.out.size ⟨hV, bD, bM⟩ hmany HA2.out HM2.out)
  have hpn : ∀ w', (binOp .eql 24 (.pointer (some ⟨D, 0, none⟩)) (.pointer none)).run Tryd.prog w' = .ok (.bool false) w' := fun w' => by kernel_rfl
  go_wp2_with fail
  refine HCr.out.mono ?_
  rintro e w3 ⟨rfl, F, s, i3, e1, e2, e3, e4, e5, f3⟩
  have HR3 := Hid.of (show RJ w1 w3 D M F 0 many (.slice none 0 0) [] [] s from ⟨i3, World.ownsRow_nil _ _ _ _, e1, (fun g hg => by cases hg), ⟨f3.os.trans HU2.out.os, f3.tape.trans HU2.out.tape, f3.output.trans HU2.out.output, Nat.le_trans HU2.out.size f3.size, fun j hj => (f3.block j (Nat.lt_of_lt_of_le hj HU2.out.size) (fun hk => by rcases hk with hk | hk <;> omega)).trans (HU2.out.block j hj)⟩, e5⟩)
  clear i3 e1 e2 e3 e4 e5 f3 HCr HA2 HM2 HU2 hpn
  dsimp only
  go_wp2
  have hmz : (many : Int) ≤ 4000 := by omega
  go_loopw [10, 11] (fun v10 v11 wr => ∃ i : Nat, v11 = .int .i64 (i : Int) ∧ i ≤ ps.length ∧ i ≤ 60 ∧ ∃ aW cW ws, v10 = .slice aW (List.length ws) cW ∧ Hid (∃ s, RJ w1 wr D M F (2 * i) many (.slice aW (List.length ws) cW) ws ws s)) (fun _ v11 _ => 60 - (intOf v11).toNat)
  case atStart => exact ⟨0, rfl, by omega, by omega, none, 0, [], rfl, Hid.of ⟨s, HR3.out⟩⟩
  case round =>
    obtain ⟨i, rfl, hi, hi60, aW, cW, ws, rfl, hR⟩ := hrel
    have hEnd : ∃ s, RJ w1 wr D M F (2 * i) many (.slice aW (List.length ws) cW) ws ws s := hR.out
    by_cases hlt : i < ps.length
    · by_cases hlt6 : i < 60
      · have hltz : (i : Int) < (ps.length : Int) := by omega
        have hlt6z : (i : Int) < 60 := by omega
        obtain ⟨s1, hI⟩ := hR.out
        have HI := Hid.of hI
        obtain ⟨b, off, ea, k0, k1⟩ := HCell.out i hlt
        subst ea
        obtain ⟨pt, hpt⟩ : ∃ pt, ps[i] = pt := ⟨_, rfl⟩
        have HPt := Hid.of (HPs.out ps[i] (List.getElem_mem hlt))
        rw [hpt] at HPt k0 k1
        obtain ⟨p, vd, ds⟩ := pt
        obtain ⟨ad, cd, hvd, _⟩ := HPt.out.1
        simp only at hvd HPt k0 k1
        subst hvd
        have HK0 := Hid.of k0
        have HK1 := Hid.of k1
        have k0 := hI.up.cell k0
        have k1 := hI.up.cell k1
        have hds := HPt.out.2.1
        have hat0 := HPt.out.2.2.1
        have hat1 := HPt.out.2.2.2
        have hcz : (ps.length : Int) ≤ (c : Int) := by omega
        have HSd := Hid.of (HPt.out.1.up hI.up)
        have HCd := Hid.of (show (ds.length : Int) ≤ (cd : Int) by
          obtain ⟨_, _, e5, h5, _⟩ := HPt.out.1
          injection e5 with _ _ e7
          subst e7
          omega)
        have HSx := Hid.of (show ∀ ad', ad = some ad' → (ds ≠ [] → ad'.spot = none) ∧ ∀ j u, (cb ds)[j]? = some u → w1.cell? (ad'.add j) = some u by
          obtain ⟨_, _, e5, _, _, _, h5⟩ := HPt.out.1
          injection e5 with e5
          rw [e5]
          exact h5)
        have hwl : ws.length ≤ many := by rw [← hI.same, ← hI.room]; exact hI.inv.nbl
        have HCo := Hid.of (copied_walk (.slice ad ds.length cd) ds wr HSd.out (by omega))
        have HEr := Hid.of (show wrE s1.room s1.nb.length p ds.length = wrE many ws.length p ds.length by rw [hI.room, hI.same])
        clear hI hR hpt HPt hEnd
        obtain ⟨m, hmd⟩ : ∃ m, ds.length = m := ⟨_, rfl⟩
        have HMd := Hid.of hmd
        rw [hmd] at k1 hds HCo HEr HK1
        clear hmd
        by_cases hm : m = 0
        · subst hm
          by_cases ha : p < 0
          · skip
            as_aux_lemma =>
              have HE := Hid.of (HEr.out.trans (show wrE many ws.length p 0 = 1 from if_pos (.inl ha)))
              go_wp2_with fail
              refine HCo.out.mono ?_
              rintro e w5 ⟨vc, rfl, o5, u5⟩
              obtain ⟨ac, cc, hvc, _⟩ := Ow.sb o5
              rw [HMd.out] at hvc
              subst hvc
              have HI5 := Hid.of (HI.out.upTo u5)
              have HWr := Hid.of (Write_walk w1.heap.size wr.heap.size D M F (2 * i) s1 (.slice ac 0 cc) ds p w5 HI5.out.inv o5 (by have := HMd.out; omega) (by omega))
              rw [HMd.out, HE.out] at HWr
              clear o5 u5 HCo
              dsimp only
              go_wp2_with fail
              refine HWr.out.mono ?_
              rintro e w6 ⟨rfl, s6, i6, e6, n6, f6⟩
              have HI6 := Hid.of (HI5.out.next i6 (e6.trans HI5.out.same) n6 f6)
              clear i6 e6 n6 f6 HWr HI5
              dsimp only
              go_wp2_with fail
              all_goals first
                | (refine (Sync_walk w1.heap.size D M F (2 * i + 1) s6 w6 HI6.out.inv (by omega)).mono ?_; rintro e w7 ⟨rfl, s7, i7, e7, n7, f7⟩; have HI7 := Hid.of (HI6.out.next i7 (e7.trans HI6.out.same) n7 f7); clear i7 e7 n7 f7; dsimp only; go_wp2_with fail)
                | (have HI7 := Hid.of (HI6.out.mono (T' := 2 * i + 1 + 1) (by omega) (by omega)))
              all_goals clear HI6
              all_goals refine (Read_walk w1.heap.size D M F (2 * i + 1 + 1) _ _ HI7.out.inv).mono ?_
              all_goals rintro e w8 ⟨vb, rfl, o8, u8⟩
              all_goals rw [HI7.out.same] at o8
              all_goals obtain ⟨ab, cb8, hvb, _⟩ := Ow.sb o8
              all_goals subst hvb
              all_goals have HI8 := Hid.of (HI7.out.upTo u8)
              all_goals have hcv1 := conv_sb (Ow.sb o8)
              all_goals have hcv2 := conv_sb (Ow.sb HI8.out.own)
              all_goals have HUs := Hid.of (Used_walk w1.heap.size D M F (2 * i + 1 + 1) _ w8 HI8.out.inv)
              all_goals rw [HI8.out.same] at HUs
              all_goals clear o8 u8 HI7
              all_goals dsimp only
              all_goals go_wp2_with fail
              all_goals refine HUs.out.mono ?_
              all_goals rintro e w9 ⟨rfl, rfl⟩
              all_goals clear HUs hcv1 hcv2
              all_goals dsimp only
              all_goals go_wp2
              all_goals go_roundw
              all_goals first
                | exact ⟨i + 1, by go_num, by omega, by omega, _, _, ws, rfl, Hid.of ⟨_, HI8.out⟩⟩
                | (simp [intOf]; omega)
          · by_cases hb : 1048576 < p
            · skip
              as_aux_lemma =>
                have HE := Hid.of (HEr.out.trans (show wrE many ws.length p 0 = 1 from if_pos (.inr hb)))
                go_wp2_with fail
                refine HCo.out.mono ?_
                rintro e w5 ⟨vc, rfl, o5, u5⟩
                obtain ⟨ac, cc, hvc, _⟩ := Ow.sb o5
                rw [HMd.out] at hvc
                subst hvc
                have HI5 := Hid.of (HI.out.upTo u5)
                have HWr := Hid.of (Write_walk w1.heap.size wr.heap.size D M F (2 * i) s1 (.slice ac 0 cc) ds p w5 HI5.out.inv o5 (by have := HMd.out; omega) (by omega))
                rw [HMd.out, HE.out] at HWr
                clear o5 u5 HCo
                dsimp only
                go_wp2_with fail
                refine HWr.out.mono ?_
                rintro e w6 ⟨rfl, s6, i6, e6, n6, f6⟩
                have HI6 := Hid.of (HI5.out.next i6 (e6.trans HI5.out.same) n6 f6)
                clear i6 e6 n6 f6 HWr HI5
                dsimp only
                go_wp2_with fail
                all_goals first
                  | (refine (Sync_walk w1.heap.size D M F (2 * i + 1) s6 w6 HI6.out.inv (by omega)).mono ?_; rintro e w7 ⟨rfl, s7, i7, e7, n7, f7⟩; have HI7 := Hid.of (HI6.out.next i7 (e7.trans HI6.out.same) n7 f7); clear i7 e7 n7 f7; dsimp only; go_wp2_with fail)
                  | (have HI7 := Hid.of (HI6.out.mono (T' := 2 * i + 1 + 1) (by omega) (by omega)))
                all_goals clear HI6
                all_goals refine (Read_walk w1.heap.size D M F (2 * i + 1 + 1) _ _ HI7.out.inv).mono ?_
                all_goals rintro e w8 ⟨vb, rfl, o8, u8⟩
                all_goals rw [HI7.out.same] at o8
                all_goals obtain ⟨ab, cb8, hvb, _⟩ := Ow.sb o8
                all_goals subst hvb
                all_goals have HI8 := Hid.of (HI7.out.upTo u8)
                all_goals have hcv1 := conv_sb (Ow.sb o8)
                all_goals have hcv2 := conv_sb (Ow.sb HI8.out.own)
                all_goals have HUs := Hid.of (Used_walk w1.heap.size D M F (2 * i + 1 + 1) _ w8 HI8.out.inv)
                all_goals rw [HI8.out.same] at HUs
                all_goals clear o8 u8 HI7
                all_goals dsimp only
                all_goals go_wp2_with fail
                all_goals refine HUs.out.mono ?_
                all_goals rintro e w9 ⟨rfl, rfl⟩
                all_goals clear HUs hcv1 hcv2
                all_goals dsimp only
                all_goals go_wp2
                all_goals go_roundw
                all_goals first
                  | exact ⟨i + 1, by go_num, by omega, by omega, _, _, ws, rfl, Hid.of ⟨_, HI8.out⟩⟩
                  | (simp [intOf]; omega)
            · have hE0 : wrE many ws.length p 0 = 0 := by
                unfold wrE
                rw [if_neg (by omega), show gro ws.length p 0 = 0 from if_pos (.inl rfl)]
                rfl
              as_aux_lemma =>
                obtain ⟨pn, rfl⟩ : ∃ pn : Nat, p = pn := ⟨p.toNat, by omega⟩
                have k0w := HK0.out
                have k1w := HK1.out
                have HE := Hid.of (HEr.out.trans (show wrE many ws.length (pn : Int) 0 = 0 from hE0))
                go_wp2_with fail
                refine HCo.out.mono ?_
                rintro e w5 ⟨vc, rfl, o5, u5⟩
                obtain ⟨ac, cc, hvc, _⟩ := Ow.sb o5
                rw [HMd.out] at hvc
                subst hvc
                have HI5 := Hid.of (HI.out.upTo u5)
                have HWr := Hid.of (Write_walk w1.heap.size wr.heap.size D M F (2 * i) s1 (.slice ac 0 cc) ds (pn : Int) w5 HI5.out.inv o5 (by have := HMd.out; omega) (by omega))
                rw [HMd.out, HE.out] at HWr
                clear o5 u5 HCo
                dsimp only
                go_wp2_with fail
                refine HWr.out.mono ?_
                rintro e w6 ⟨rfl, s6, i6, e6, n6, f6⟩
                obtain ⟨nw, hnw⟩ : ∃ nw, Go.Proofs.YtngagdfemdamdaaDoor.wr ws pn ds = nw := ⟨_, rfl⟩
                have HI6 := Hid.of (HI5.out.next i6 (e6.trans (show (if (0 : Int) = 0 then Go.Proofs.YtngagdfemdamdaaDoor.wr s1.nb (pn : Int).toNat ds else s1.nb) = nw by rw [if_pos rfl, HI5.out.same, Int.toNat_natCast, hnw])) n6 f6)
                have HNw := Hid.of hnw
                clear i6 e6 n6 f6 HWr HI5 hnw
                dsimp only
                have h00 : ds = [] := List.eq_nil_of_length_eq_zero HMd.out
                have hnl : ws = nw := by
                  rw [← HNw.out]
                  unfold Go.Proofs.YtngagdfemdamdaaDoor.wr
                  rw [if_pos h00]
                have HJ := Hid.of HI6.out
                rw [hnl] at HJ ⊢
                obtain ⟨ys, hys⟩ : ∃ ys, nw = ys := ⟨_, rfl⟩
                have HYq := Hid.of hys
                have H00 := Hid.of h00
                clear HI6 hnl hys h00
                go_wp2_with fail
                go_loopw [10] (fun v10 wx => v10 = .slice aW nw.length cW ∧ Hid (RJ w1 wx D M F (2 * i + 1) many (.slice aW nw.length cW) nw nw s6)) (fun _ _ => 0)
                case atStart => exact ⟨rfl, HJ.out⟩
                case round =>
                  obtain ⟨rfl, hRa⟩ := hrel
                  obtain ⟨wa, hwa⟩ : ∃ wa, wa = wr := ⟨_, rfl⟩
                  subst hwa
                  have HJ := Hid.of (show RJ w1 wa D M F (2 * i + 1) many (.slice aW nw.length cW) ys nw s6 from HYq.out ▸ hRa.out)
                  have HYe := Hid.of (show splice ys pn ds = nw by rw [H00.out, splice_zero, HYq.out])
                  clear hRa
                  go_wp2_with fail
                  go_loopw [15] (fun v15 wx => ∃ j : Nat, v15 = .int .i64 (j : Int) ∧ j ≤ 0 ∧ Hid (RJ w1 wx D M F (2 * i + 1) many (.slice aW nw.length cW) (splice ys pn (ds.take j)) nw s6)) (fun v15 _ => 0 - (intOf v15).toNat)
                  case atStart => exact ⟨0, rfl, by omega, Hid.of (by rw [List.take_zero, splice_zero]; exact HJ.out)⟩
                  case round =>
                    obtain ⟨j, rfl, hj, hRj⟩ := hrel
                    obtain ⟨wj, hwj⟩ : ∃ wj, wj = wr := ⟨_, rfl⟩
                    subst hwj
                    have q0 := hRj.out.up.cell k0w
                    have q1 := hRj.out.up.cell k1w
                    obtain rfl : j = 0 := by omega
                    have HI6 := Hid.of (show RJ w1 wj D M F (2 * i + 1) many (.slice aW nw.length cW) nw nw s6 by
                      have h5 := hRj.out
                      rw [List.take_zero, splice_zero, ← HYq.out] at h5
                      exact h5)
                    clear hRj HJ k0w k1w
                    go_wp2_with fail
                    all_goals first
                      | (refine (Sync_walk w1.heap.size D M F (2 * i + 1) s6 wj HI6.out.inv (by omega)).mono ?_; rintro e w7 ⟨rfl, s7, i7, e7, n7, f7⟩; have HI7 := Hid.of (HI6.out.next i7 (e7.trans HI6.out.same) n7 f7); clear i7 e7 n7 f7; dsimp only; go_wp2_with fail)
                      | (have HI7 := Hid.of (HI6.out.mono (T' := 2 * i + 1 + 1) (by omega) (by omega)))
                    all_goals clear HI6
                    all_goals refine (Read_walk w1.heap.size D M F (2 * i + 1 + 1) _ _ HI7.out.inv).mono ?_
                    all_goals rintro e w8 ⟨vb, rfl, o8, u8⟩
                    all_goals rw [HI7.out.same] at o8
                    all_goals obtain ⟨ab, cb8, hvb, _⟩ := Ow.sb o8
                    all_goals subst hvb
                    all_goals have HI8 := Hid.of (HI7.out.upTo u8)
                    all_goals have hcv1 := conv_sb (Ow.sb o8)
                    all_goals have hcv2 := conv_sb (Ow.sb HI8.out.own)
                    all_goals have HUs := Hid.of (Used_walk w1.heap.size D M F (2 * i + 1 + 1) _ w8 HI8.out.inv)
                    all_goals rw [HI8.out.same] at HUs
                    all_goals clear o8 u8 HI7
                    all_goals dsimp only
                    all_goals go_wp2_with fail
                    all_goals refine HUs.out.mono ?_
                    all_goals rintro e w9 ⟨rfl, rfl⟩
                    all_goals clear HUs hcv1 hcv2
                    all_goals dsimp only
                    all_goals go_wp2
                    all_goals go_roundw
                    all_goals first
                      | exact ⟨i + 1, by go_num, by omega, by omega, _, _, nw, rfl, Hid.of ⟨_, HI8.out⟩⟩
                      | (simp [intOf]; omega)
        · have hmz : (0 : Int) < (m : Int) := by omega
          by_cases ha : p < 0
          · have ha2 : ¬ (0 : Int) ≤ p := by omega
            as_aux_lemma =>
              have HE := Hid.of (HEr.out.trans (show wrE many ws.length p m = 1 from if_pos (.inl ha)))
              go_wp2_with fail
              refine HCo.out.mono ?_
              rintro e w5 ⟨vc, rfl, o5, u5⟩
              obtain ⟨ac, cc, hvc, _⟩ := Ow.sb o5
              rw [HMd.out] at hvc
              subst hvc
              have HI5 := Hid.of (HI.out.upTo u5)
              have HWr := Hid.of (Write_walk w1.heap.size wr.heap.size D M F (2 * i) s1 (.slice ac m cc) ds p w5 HI5.out.inv o5 (by have := HMd.out; omega) (by omega))
              rw [HMd.out, HE.out] at HWr
              clear o5 u5 HCo
              dsimp only
              go_wp2_with fail
              refine HWr.out.mono ?_
              rintro e w6 ⟨rfl, s6, i6, e6, n6, f6⟩
              have HI6 := Hid.of (HI5.out.next i6 (e6.trans HI5.out.same) n6 f6)
              clear i6 e6 n6 f6 HWr HI5
              dsimp only
              go_wp2_with fail
              all_goals first
                | (refine (Sync_walk w1.heap.size D M F (2 * i + 1) s6 w6 HI6.out.inv (by omega)).mono ?_; rintro e w7 ⟨rfl, s7, i7, e7, n7, f7⟩; have HI7 := Hid.of (HI6.out.next i7 (e7.trans HI6.out.same) n7 f7); clear i7 e7 n7 f7; dsimp only; go_wp2_with fail)
                | (have HI7 := Hid.of (HI6.out.mono (T' := 2 * i + 1 + 1) (by omega) (by omega)))
              all_goals clear HI6
              all_goals refine (Read_walk w1.heap.size D M F (2 * i + 1 + 1) _ _ HI7.out.inv).mono ?_
              all_goals rintro e w8 ⟨vb, rfl, o8, u8⟩
              all_goals rw [HI7.out.same] at o8
              all_goals obtain ⟨ab, cb8, hvb, _⟩ := Ow.sb o8
              all_goals subst hvb
              all_goals have HI8 := Hid.of (HI7.out.upTo u8)
              all_goals have hcv1 := conv_sb (Ow.sb o8)
              all_goals have hcv2 := conv_sb (Ow.sb HI8.out.own)
              all_goals have HUs := Hid.of (Used_walk w1.heap.size D M F (2 * i + 1 + 1) _ w8 HI8.out.inv)
              all_goals rw [HI8.out.same] at HUs
              all_goals clear o8 u8 HI7
              all_goals dsimp only
              all_goals go_wp2_with fail
              all_goals refine HUs.out.mono ?_
              all_goals rintro e w9 ⟨rfl, rfl⟩
              all_goals clear HUs hcv1 hcv2
              all_goals dsimp only
              all_goals go_wp2
              all_goals go_roundw
              all_goals first
                | exact ⟨i + 1, by go_num, by omega, by omega, _, _, ws, rfl, Hid.of ⟨_, HI8.out⟩⟩
                | (simp [intOf]; omega)
          · have ha2 : (0 : Int) ≤ p := by omega
            by_cases hb : 1048576 < p
            · have hb2 : ¬ p ≤ 1048576 := by omega
              as_aux_lemma =>
                have HE := Hid.of (HEr.out.trans (show wrE many ws.length p m = 1 from if_pos (.inr hb)))
                go_wp2_with fail
                refine HCo.out.mono ?_
                rintro e w5 ⟨vc, rfl, o5, u5⟩
                obtain ⟨ac, cc, hvc, _⟩ := Ow.sb o5
                rw [HMd.out] at hvc
                subst hvc
                have HI5 := Hid.of (HI.out.upTo u5)
                have HWr := Hid.of (Write_walk w1.heap.size wr.heap.size D M F (2 * i) s1 (.slice ac m cc) ds p w5 HI5.out.inv o5 (by have := HMd.out; omega) (by omega))
                rw [HMd.out, HE.out] at HWr
                clear o5 u5 HCo
                dsimp only
                go_wp2_with fail
                refine HWr.out.mono ?_
                rintro e w6 ⟨rfl, s6, i6, e6, n6, f6⟩
                have HI6 := Hid.of (HI5.out.next i6 (e6.trans HI5.out.same) n6 f6)
                clear i6 e6 n6 f6 HWr HI5
                dsimp only
                go_wp2_with fail
                all_goals first
                  | (refine (Sync_walk w1.heap.size D M F (2 * i + 1) s6 w6 HI6.out.inv (by omega)).mono ?_; rintro e w7 ⟨rfl, s7, i7, e7, n7, f7⟩; have HI7 := Hid.of (HI6.out.next i7 (e7.trans HI6.out.same) n7 f7); clear i7 e7 n7 f7; dsimp only; go_wp2_with fail)
                  | (have HI7 := Hid.of (HI6.out.mono (T' := 2 * i + 1 + 1) (by omega) (by omega)))
                all_goals clear HI6
                all_goals refine (Read_walk w1.heap.size D M F (2 * i + 1 + 1) _ _ HI7.out.inv).mono ?_
                all_goals rintro e w8 ⟨vb, rfl, o8, u8⟩
                all_goals rw [HI7.out.same] at o8
                all_goals obtain ⟨ab, cb8, hvb, _⟩ := Ow.sb o8
                all_goals subst hvb
                all_goals have HI8 := Hid.of (HI7.out.upTo u8)
                all_goals have hcv1 := conv_sb (Ow.sb o8)
                all_goals have hcv2 := conv_sb (Ow.sb HI8.out.own)
                all_goals have HUs := Hid.of (Used_walk w1.heap.size D M F (2 * i + 1 + 1) _ w8 HI8.out.inv)
                all_goals rw [HI8.out.same] at HUs
                all_goals clear o8 u8 HI7
                all_goals dsimp only
                all_goals go_wp2_with fail
                all_goals refine HUs.out.mono ?_
                all_goals rintro e w9 ⟨rfl, rfl⟩
                all_goals clear HUs hcv1 hcv2
                all_goals dsimp only
                all_goals go_wp2
                all_goals go_roundw
                all_goals first
                  | exact ⟨i + 1, by go_num, by omega, by omega, _, _, ws, rfl, Hid.of ⟨_, HI8.out⟩⟩
                  | (simp [intOf]; omega)
            · have hb2 : p ≤ 1048576 := by omega
              by_cases hg : p + m ≤ ws.length
              · have hg2 : ¬ (ws.length : Int) < p + (m : Int) := by omega
                have hE0 : wrE many ws.length p m = 0 := by
                  unfold wrE
                  rw [if_neg (by omega), show gro ws.length p m = 0 from if_pos (.inr hg)]
                  rfl
                as_aux_lemma =>
                  obtain ⟨pn, rfl⟩ : ∃ pn : Nat, p = pn := ⟨p.toNat, by omega⟩
                  have k0w := HK0.out
                  have k1w := HK1.out
                  have hadn : ad ≠ none := fun hn => by
                    obtain ⟨_, _, e5, _, _, h3, _⟩ := HSd.out
                    injection e5 with e5
                    have h5 := (h3 (e5 ▸ hn)).1
                    have h6 := HMd.out
                    rw [h5] at h6
                    simp at h6
                    omega
                  obtain ⟨⟨bd, od, sd⟩, had⟩ := Option.ne_none_iff_exists'.1 hadn
                  subst had
                  obtain rfl : sd = none := (HSx.out _ rfl).1 (fun h5 => by
                    have h6 := HMd.out
                    rw [h5] at h6
                    simp at h6
                    omega)
                  have HSw := Hid.of (HSx.out _ rfl).2
                  clear hadn
                  have HE := Hid.of (HEr.out.trans (show wrE many ws.length (pn : Int) m = 0 from hE0))
                  go_wp2_with fail
                  refine HCo.out.mono ?_
                  rintro e w5 ⟨vc, rfl, o5, u5⟩
                  obtain ⟨ac, cc, hvc, _⟩ := Ow.sb o5
                  rw [HMd.out] at hvc
                  subst hvc
                  have HI5 := Hid.of (HI.out.upTo u5)
                  have HWr := Hid.of (Write_walk w1.heap.size wr.heap.size D M F (2 * i) s1 (.slice ac m cc) ds (pn : Int) w5 HI5.out.inv o5 (by have := HMd.out; omega) (by omega))
                  rw [HMd.out, HE.out] at HWr
                  clear o5 u5 HCo
                  dsimp only
                  go_wp2_with fail
                  refine HWr.out.mono ?_
                  rintro e w6 ⟨rfl, s6, i6, e6, n6, f6⟩
                  obtain ⟨nw, hnw⟩ : ∃ nw, Go.Proofs.YtngagdfemdamdaaDoor.wr ws pn ds = nw := ⟨_, rfl⟩
                  have HI6 := Hid.of (HI5.out.next i6 (e6.trans (show (if (0 : Int) = 0 then Go.Proofs.YtngagdfemdamdaaDoor.wr s1.nb (pn : Int).toNat ds else s1.nb) = nw by rw [if_pos rfl, HI5.out.same, Int.toNat_natCast, hnw])) n6 f6)
                  have HNw := Hid.of hnw
                  clear i6 e6 n6 f6 HWr HI5 hnw
                  dsimp only
                  have hnl : ws.length = nw.length := by
                    rw [← HNw.out]
                    by_cases h0 : ds = []
                    · unfold Go.Proofs.YtngagdfemdamdaaDoor.wr
                      rw [if_pos h0]
                    · rw [wr_len ws pn ds h0]
                      have := HMd.out
                      omega
                  have HNL := Hid.of hnl
                  clear hnl
                  go_wp2_with fail
                  go_loopw [10] (fun v10 wx => v10 = .slice aW ws.length cW ∧ Hid (RJ w1 wx D M F (2 * i + 1) many (.slice aW ws.length cW) ws nw s6)) (fun _ _ => 0)
                  case atStart => exact ⟨rfl, HI6.out⟩
                  case round =>
                    obtain ⟨rfl, hRa⟩ := hrel
                    obtain ⟨wa, hwa⟩ : ∃ wa, wa = wr := ⟨_, rfl⟩
                    subst hwa
                    have HJ0 := Hid.of hRa.out
                    clear hRa HI6
                    rw [HNL.out] at HJ0 ⊢
                    obtain ⟨ys, hys⟩ : ∃ ys, ws = ys := ⟨_, rfl⟩
                    have HJ := Hid.of (show RJ w1 wa D M F (2 * i + 1) many (.slice aW nw.length cW) ys nw s6 from hys ▸ HJ0.out)
                    have HYs := Hid.of (show pn + ds.length ≤ ys.length by rw [← hys, HMd.out]; omega)
                    have HYe := Hid.of (show splice ys pn ds = nw by
                      rw [← HNw.out, ← hys]
                      unfold Go.Proofs.YtngagdfemdamdaaDoor.wr
                      by_cases h0 : ds = []
                      · rw [if_pos h0, h0, splice_zero]
                      · rw [if_neg h0, show pn + ds.length - ws.length = 0 by rw [HMd.out]; omega, List.replicate_zero, List.append_nil])
                    have HNl := Hid.of (show nw.length = ys.length by rw [← hys, HNL.out])
                    clear HJ0 hys
                    go_wp2_with fail
                    go_loopw [15] (fun v15 wx => ∃ j : Nat, v15 = .int .i64 (j : Int) ∧ j ≤ m ∧ Hid (RJ w1 wx D M F (2 * i + 1) many (.slice aW nw.length cW) (splice ys pn (ds.take j)) nw s6)) (fun v15 _ => m - (intOf v15).toNat)
                    case atStart => exact ⟨0, rfl, by omega, Hid.of (by rw [List.take_zero, splice_zero]; exact HJ.out)⟩
                    case round =>
                      obtain ⟨j, rfl, hj, hRj⟩ := hrel
                      obtain ⟨wj, hwj⟩ : ∃ wj, wj = wr := ⟨_, rfl⟩
                      subst hwj
                      have q0 := hRj.out.up.cell k0w
                      have q1 := hRj.out.up.cell k1w
                      by_cases hjm : j < m
                      · have hjmz : (j : Int) < (m : Int) := by omega
                        have hjd : j < ds.length := by have := HMd.out; omega
                        have HRj := Hid.of hRj.out
                        have qd : wj.cell? ((⟨bd, od, none⟩ : Addr).add j) = some (.int .u8 (ds[j].toNat : Int)) := HRj.out.up.cell (HSw.out j _ (cb_get hjd))
                        rw [Addr.add_lit] at qd
                        have hyl := splice_len ys pn (ds.take j) (by have := HYs.out; rw [List.length_take]; omega)
                        have hw : pn + j < (splice ys pn (ds.take j)).length := by have := HYs.out; rw [hyl]; omega
                        obtain ⟨g, hg⟩ : ∃ g, aW = some ⟨g, 0, none⟩ := by
                          rcases HRj.out.own.2 with ⟨_, h0⟩ | ⟨g, cap, cur, e, _⟩
                          · omega
                          · injection e with e
                            exact ⟨g, e⟩
                        subst hg
                        obtain ⟨qw, qf⟩ := ow_cells HRj.out.own hw
                        have HPut := Hid.of (Ow.put HRj.out.own (pn + j) ds[j])
                        rw [splice_step ys ds pn j hjd HYs.out] at HPut
                        have HNx := Hid.of (HRj.out.wants HPut.out (grown_at wj g (pn + j) (.int .u8 (ds[j].toNat : Int))) (Frs.refl _ _))
                        have hpjz : (pn : Int) + (j : Int) < (nw.length : Int) := by have := HYs.out; have h5 := HNl.out; omega
                        have hnwz : (nw.length : Int) ≤ (cW : Int) := by
                          obtain ⟨_, _, e5, h5, _⟩ := Ow.sb HRj.out.own
                          injection e5 with _ e6 e7
                          subst e7
                          omega
                        have hlj : ((ds.length : Nat) : Int) ≤ (cd : Int) := HCd.out
                        rw [HMd.out] at hlj
                        generalize ds[j] = xj at *
                        have hpj2 : ((pn : Int) + (j : Int)).toNat = pn + j := by omega
                        clear HPut hRj
                        go_wp2
                        go_roundw
                        all_goals first
                          | exact ⟨j + 1, by go_num, by omega, HNx.out⟩
                          | (simp [intOf]; omega)
                      · have hjmz : ¬ (j : Int) < (m : Int) := by omega
                        obtain rfl : j = m := by omega
                        have HI6 := Hid.of (show RJ w1 wj D M F (2 * i + 1) many (.slice aW nw.length cW) nw nw s6 by
                          have h5 := hRj.out
                          rw [List.take_of_length_le (by rw [HMd.out]; omega), HYe.out] at h5
                          exact h5)
                        clear hRj HJ k0w k1w
                        go_wp2_with fail
                        all_goals first
                          | (refine (Sync_walk w1.heap.size D M F (2 * i + 1) s6 wj HI6.out.inv (by omega)).mono ?_; rintro e w7 ⟨rfl, s7, i7, e7, n7, f7⟩; have HI7 := Hid.of (HI6.out.next i7 (e7.trans HI6.out.same) n7 f7); clear i7 e7 n7 f7; dsimp only; go_wp2_with fail)
                          | (have HI7 := Hid.of (HI6.out.mono (T' := 2 * i + 1 + 1) (by omega) (by omega)))
                        all_goals clear HI6
                        all_goals refine (Read_walk w1.heap.size D M F (2 * i + 1 + 1) _ _ HI7.out.inv).mono ?_
                        all_goals rintro e w8 ⟨vb, rfl, o8, u8⟩
                        all_goals rw [HI7.out.same] at o8
                        all_goals obtain ⟨ab, cb8, hvb, _⟩ := Ow.sb o8
                        all_goals subst hvb
                        all_goals have HI8 := Hid.of (HI7.out.upTo u8)
                        all_goals have hcv1 := conv_sb (Ow.sb o8)
                        all_goals have hcv2 := conv_sb (Ow.sb HI8.out.own)
                        all_goals have HUs := Hid.of (Used_walk w1.heap.size D M F (2 * i + 1 + 1) _ w8 HI8.out.inv)
                        all_goals rw [HI8.out.same] at HUs
                        all_goals clear o8 u8 HI7
                        all_goals dsimp only
                        all_goals go_wp2_with fail
                        all_goals refine HUs.out.mono ?_
                        all_goals rintro e w9 ⟨rfl, rfl⟩
                        all_goals clear HUs hcv1 hcv2
                        all_goals dsimp only
                        all_goals go_wp2
                        all_goals go_roundw
                        all_goals first
                          | exact ⟨i + 1, by go_num, by omega, by omega, _, _, nw, rfl, Hid.of ⟨_, HI8.out⟩⟩
                          | (simp [intOf]; omega)
              · have hg2 : (ws.length : Int) < p + (m : Int) := by omega
                have hgr : gro ws.length p m = p + m - ws.length := if_neg (by omega)
                by_cases ho : (many : Int) < p + m
                · skip
                  as_aux_lemma =>
                    have HE := Hid.of (HEr.out.trans (show wrE many ws.length p m = 123 from by unfold wrE; rw [if_neg (by omega), hgr, if_pos (by omega)]))
                    go_wp2_with fail
                    refine HCo.out.mono ?_
                    rintro e w5 ⟨vc, rfl, o5, u5⟩
                    obtain ⟨ac, cc, hvc, _⟩ := Ow.sb o5
                    rw [HMd.out] at hvc
                    subst hvc
                    have HI5 := Hid.of (HI.out.upTo u5)
                    have HWr := Hid.of (Write_walk w1.heap.size wr.heap.size D M F (2 * i) s1 (.slice ac m cc) ds p w5 HI5.out.inv o5 (by have := HMd.out; omega) (by omega))
                    rw [HMd.out, HE.out] at HWr
                    clear o5 u5 HCo
                    dsimp only
                    go_wp2_with fail
                    refine HWr.out.mono ?_
                    rintro e w6 ⟨rfl, s6, i6, e6, n6, f6⟩
                    have HI6 := Hid.of (HI5.out.next i6 (e6.trans HI5.out.same) n6 f6)
                    clear i6 e6 n6 f6 HWr HI5
                    dsimp only
                    go_wp2_with fail
                    all_goals first
                      | (refine (Sync_walk w1.heap.size D M F (2 * i + 1) s6 w6 HI6.out.inv (by omega)).mono ?_; rintro e w7 ⟨rfl, s7, i7, e7, n7, f7⟩; have HI7 := Hid.of (HI6.out.next i7 (e7.trans HI6.out.same) n7 f7); clear i7 e7 n7 f7; dsimp only; go_wp2_with fail)
                      | (have HI7 := Hid.of (HI6.out.mono (T' := 2 * i + 1 + 1) (by omega) (by omega)))
                    all_goals clear HI6
                    all_goals refine (Read_walk w1.heap.size D M F (2 * i + 1 + 1) _ _ HI7.out.inv).mono ?_
                    all_goals rintro e w8 ⟨vb, rfl, o8, u8⟩
                    all_goals rw [HI7.out.same] at o8
                    all_goals obtain ⟨ab, cb8, hvb, _⟩ := Ow.sb o8
                    all_goals subst hvb
                    all_goals have HI8 := Hid.of (HI7.out.upTo u8)
                    all_goals have hcv1 := conv_sb (Ow.sb o8)
                    all_goals have hcv2 := conv_sb (Ow.sb HI8.out.own)
                    all_goals have HUs := Hid.of (Used_walk w1.heap.size D M F (2 * i + 1 + 1) _ w8 HI8.out.inv)
                    all_goals rw [HI8.out.same] at HUs
                    all_goals clear o8 u8 HI7
                    all_goals dsimp only
                    all_goals go_wp2_with fail
                    all_goals refine HUs.out.mono ?_
                    all_goals rintro e w9 ⟨rfl, rfl⟩
                    all_goals clear HUs hcv1 hcv2
                    all_goals dsimp only
                    all_goals go_wp2
                    all_goals go_roundw
                    all_goals first
                      | exact ⟨i + 1, by go_num, by omega, by omega, _, _, ws, rfl, Hid.of ⟨_, HI8.out⟩⟩
                      | (simp [intOf]; omega)
                · have hE0 : wrE many ws.length p m = 0 := by
                    unfold wrE
                    rw [if_neg (by omega), hgr, if_neg (by omega)]
                  as_aux_lemma =>
                    obtain ⟨pn, rfl⟩ : ∃ pn : Nat, p = pn := ⟨p.toNat, by omega⟩
                    have k0w := HK0.out
                    have k1w := HK1.out
                    have hadn : ad ≠ none := fun hn => by
                      obtain ⟨_, _, e5, _, _, h3, _⟩ := HSd.out
                      injection e5 with e5
                      have h5 := (h3 (e5 ▸ hn)).1
                      have h6 := HMd.out
                      rw [h5] at h6
                      simp at h6
                      omega
                    obtain ⟨⟨bd, od, sd⟩, had⟩ := Option.ne_none_iff_exists'.1 hadn
                    subst had
                    obtain rfl : sd = none := (HSx.out _ rfl).1 (fun h5 => by
                      have h6 := HMd.out
                      rw [h5] at h6
                      simp at h6
                      omega)
                    have HSw := Hid.of (HSx.out _ rfl).2
                    clear hadn
                    have HE := Hid.of (HEr.out.trans (show wrE many ws.length (pn : Int) m = 0 from hE0))
                    go_wp2_with fail
                    refine HCo.out.mono ?_
                    rintro e w5 ⟨vc, rfl, o5, u5⟩
                    obtain ⟨ac, cc, hvc, _⟩ := Ow.sb o5
                    rw [HMd.out] at hvc
                    subst hvc
                    have HI5 := Hid.of (HI.out.upTo u5)
                    have HWr := Hid.of (Write_walk w1.heap.size wr.heap.size D M F (2 * i) s1 (.slice ac m cc) ds (pn : Int) w5 HI5.out.inv o5 (by have := HMd.out; omega) (by omega))
                    rw [HMd.out, HE.out] at HWr
                    clear o5 u5 HCo
                    dsimp only
                    go_wp2_with fail
                    refine HWr.out.mono ?_
                    rintro e w6 ⟨rfl, s6, i6, e6, n6, f6⟩
                    obtain ⟨nw, hnw⟩ : ∃ nw, Go.Proofs.YtngagdfemdamdaaDoor.wr ws pn ds = nw := ⟨_, rfl⟩
                    have HI6 := Hid.of (HI5.out.next i6 (e6.trans (show (if (0 : Int) = 0 then Go.Proofs.YtngagdfemdamdaaDoor.wr s1.nb (pn : Int).toNat ds else s1.nb) = nw by rw [if_pos rfl, HI5.out.same, Int.toNat_natCast, hnw])) n6 f6)
                    have HNw := Hid.of hnw
                    clear i6 e6 n6 f6 HWr HI5 hnw
                    dsimp only
                    obtain ⟨kk, hkk⟩ : ∃ kk, pn + m = ws.length + kk := ⟨pn + m - ws.length, by omega⟩
                    have h0 : ds ≠ [] := fun h => by have h5 := HMd.out; rw [h] at h5; simp at h5; omega
                    have hnl : nw.length = ws.length + kk := by
                      rw [← HNw.out, wr_len ws pn ds h0, HMd.out]
                      omega
                    have HKK := Hid.of hkk
                    have HNL := Hid.of hnl
                    have H0 := Hid.of h0
                    clear hnl hkk h0
                    go_wp2_with fail
                    go_loopw [10] (fun v10 wx => ∃ aX cX, ∃ k : Nat, v10 = .slice aX (ws.length + k) cX ∧ k ≤ kk ∧ Hid (RJ w1 wx D M F (2 * i + 1) many (.slice aX (ws.length + k) cX) (ws ++ List.replicate k 0) nw s6)) (fun v10 _ => match v10 with | .slice _ n _ => ws.length + kk - n | _ => 0)
                    case atStart => exact ⟨aW, cW, 0, rfl, by omega, Hid.of (by rw [List.replicate_zero, List.append_nil]; exact HI6.out)⟩
                    case round =>
                      obtain ⟨aX, cX, k, rfl, hk, hRa⟩ := hrel
                      obtain ⟨wa, hwa⟩ : ∃ wa, wa = wr := ⟨_, rfl⟩
                      subst hwa
                      by_cases hlk : k < kk
                      · have hlkz : ((ws.length + k : Nat) : Int) < (pn : Int) + (m : Int) := by have := HKK.out; omega
                        obtain ⟨i8, hi8, hz80, hz81, hz82⟩ := info_parts Tryd.infoU8
                        have HRa := Hid.of hRa.out
                        have HUx := Hid.of ((Up.refl wa).alloc (.cells [.int .u8 0].toArray 5))
                        have HOx := Hid.of (show (wa.alloc (.cells [.int .u8 0].toArray 5)).ownsRow w1.heap.size 5 1 (.slice aX (ws.length + k) cX) (ws.length + k) (cb (ws ++ List.replicate k 0)) by
                          have h5 := ow_up HRa.out.own HUx.out
                          have e5 : (ws ++ List.replicate k (0 : UInt8)).length = ws.length + k := by simp
                          rw [e5] at h5
                          exact h5)
                        clear hRa HI6
                        go_wp2_with (with_reducible show wpList _ _ _ ({ dst := _, op := Op.call { callee := Callee.builtin Builtin.append, args := _, argTypes := _ }, type := _, pos := _, after := _, guard := _ } :: _) _ _; refine Shut.out ?_)
                        show wpList _ _ _ _ _ _
                        refine wpList_append_frs rfl _ _ 29 rfl w1.heap.size 5 i8 (.int .u8 0) 1 Tryd.underlying29 hi8 hz80 hz81 hz82 rfl (.slice aX (ws.length + k) cX) (ws.length + k) (cb (ws ++ List.replicate k 0)) rfl HOx.out ⟨wa.heap.size, 0, none⟩ 1 1 [.int .u8 0] rfl rfl ?_ ?_ (by simp only [maxLen]; omega) (by omega) (by have := HRa.out.up.size; simp; omega) ?_
                        · intro j u hu
                          rw [Addr.add_lit]
                          exact At.cell (at_new wa 5 [.int .u8 0]) (i := 0 + j) (by rw [Nat.zero_add]; exact hu)
                        · intro u hu
                          obtain rfl := List.mem_singleton.1 hu
                          rfl
                        intro v8 w8 o8 g8 f8
                        have o9 : Ow w8 w1.heap.size v8 (ws ++ List.replicate (k + 1) 0) := by
                          unfold Ow
                          rw [List.replicate_succ', ← List.append_assoc, cb_append]
                          have e5 : (ws ++ List.replicate k (0 : UInt8) ++ [0]).length = ws.length + k + 1 := by simp; omega
                          rw [e5]
                          exact o8
                        obtain ⟨a8, c8, hv8, _⟩ := Ow.sb o9
                        have e6 : (ws ++ List.replicate (k + 1) (0 : UInt8)).length = ws.length + (k + 1) := by simp
                        rw [e6] at hv8
                        subst hv8
                        have HN8 := Hid.of ((HRa.out.upTo HUx.out).wants o9 g8 f8)
                        clear o8 g8 f8 o9 e6
                        simp only [Act.put, List.setIfInBounds_toArray, List.set_cons_zero, List.set_cons_succ]
                        go_wp2
                        go_roundw
                        all_goals first
                          | exact ⟨a8, c8, k + 1, rfl, by omega, HN8.out⟩
                          | (simp; omega)
                      · obtain rfl : k = kk := by omega
                        have hlkz : ¬ ((ws.length + k : Nat) : Int) < (pn : Int) + (m : Int) := by have := HKK.out; omega
                        have HJ0 := Hid.of hRa.out
                        clear hRa HI6
                        rw [← HNL.out] at HJ0 hlkz ⊢
                        obtain ⟨ys, hys⟩ : ∃ ys, ws ++ List.replicate k 0 = ys := ⟨_, rfl⟩
                        have HJ := Hid.of (show RJ w1 wa D M F (2 * i + 1) many (.slice aX nw.length cX) ys nw s6 from hys ▸ HJ0.out)
                        have HYs := Hid.of (show pn + ds.length ≤ ys.length by rw [← hys, HMd.out, List.length_append, List.length_replicate]; have := HKK.out; omega)
                        have HYe := Hid.of (show splice ys pn ds = nw by
                          rw [← HNw.out, ← hys]
                          unfold Go.Proofs.YtngagdfemdamdaaDoor.wr
                          rw [if_neg H0.out, show pn + ds.length - ws.length = k by rw [HMd.out]; have := HKK.out; omega])
                        have HNl := Hid.of (show nw.length = ys.length by rw [← hys, List.length_append, List.length_replicate, HNL.out])
                        clear HJ0 hys
                        go_wp2_with fail
                        go_loopw [15] (fun v15 wx => ∃ j : Nat, v15 = .int .i64 (j : Int) ∧ j ≤ m ∧ Hid (RJ w1 wx D M F (2 * i + 1) many (.slice aX nw.length cX) (splice ys pn (ds.take j)) nw s6)) (fun v15 _ => m - (intOf v15).toNat)
                        case atStart => exact ⟨0, rfl, by omega, Hid.of (by rw [List.take_zero, splice_zero]; exact HJ.out)⟩
                        case round =>
                          obtain ⟨j, rfl, hj, hRj⟩ := hrel
                          obtain ⟨wj, hwj⟩ : ∃ wj, wj = wr := ⟨_, rfl⟩
                          subst hwj
                          have q0 := hRj.out.up.cell k0w
                          have q1 := hRj.out.up.cell k1w
                          by_cases hjm : j < m
                          · have hjmz : (j : Int) < (m : Int) := by omega
                            have hjd : j < ds.length := by have := HMd.out; omega
                            have HRj := Hid.of hRj.out
                            have qd : wj.cell? ((⟨bd, od, none⟩ : Addr).add j) = some (.int .u8 (ds[j].toNat : Int)) := HRj.out.up.cell (HSw.out j _ (cb_get hjd))
                            rw [Addr.add_lit] at qd
                            have hyl := splice_len ys pn (ds.take j) (by have := HYs.out; rw [List.length_take]; omega)
                            have hw : pn + j < (splice ys pn (ds.take j)).length := by have := HYs.out; rw [hyl]; omega
                            obtain ⟨g, hg⟩ : ∃ g, aX = some ⟨g, 0, none⟩ := by
                              rcases HRj.out.own.2 with ⟨_, h0⟩ | ⟨g, cap, cur, e, _⟩
                              · omega
                              · injection e with e
                                exact ⟨g, e⟩
                            subst hg
                            obtain ⟨qw, qf⟩ := ow_cells HRj.out.own hw
                            have HPut := Hid.of (Ow.put HRj.out.own (pn + j) ds[j])
                            rw [splice_step ys ds pn j hjd HYs.out] at HPut
                            have HNx := Hid.of (HRj.out.wants HPut.out (grown_at wj g (pn + j) (.int .u8 (ds[j].toNat : Int))) (Frs.refl _ _))
                            have hpjz : (pn : Int) + (j : Int) < (nw.length : Int) := by have := HYs.out; have h5 := HNl.out; omega
                            have hnwz : (nw.length : Int) ≤ (cX : Int) := by
                              obtain ⟨_, _, e5, h5, _⟩ := Ow.sb HRj.out.own
                              injection e5 with _ e6 e7
                              subst e7
                              omega
                            have hlj : ((ds.length : Nat) : Int) ≤ (cd : Int) := HCd.out
                            rw [HMd.out] at hlj
                            generalize ds[j] = xj at *
                            have hpj2 : ((pn : Int) + (j : Int)).toNat = pn + j := by omega
                            clear HPut hRj
                            go_wp2
                            go_roundw
                            all_goals first
                              | exact ⟨j + 1, by go_num, by omega, HNx.out⟩
                              | (simp [intOf]; omega)
                          · have hjmz : ¬ (j : Int) < (m : Int) := by omega
                            obtain rfl : j = m := by omega
                            have HI6 := Hid.of (show RJ w1 wj D M F (2 * i + 1) many (.slice aX nw.length cX) nw nw s6 by
                              have h5 := hRj.out
                              rw [List.take_of_length_le (by rw [HMd.out]; omega), HYe.out] at h5
                              exact h5)
                            clear hRj HJ k0w k1w
                            go_wp2_with fail
                            all_goals first
                              | (refine (Sync_walk w1.heap.size D M F (2 * i + 1) s6 wj HI6.out.inv (by omega)).mono ?_; rintro e w7 ⟨rfl, s7, i7, e7, n7, f7⟩; have HI7 := Hid.of (HI6.out.next i7 (e7.trans HI6.out.same) n7 f7); clear i7 e7 n7 f7; dsimp only; go_wp2_with fail)
                              | (have HI7 := Hid.of (HI6.out.mono (T' := 2 * i + 1 + 1) (by omega) (by omega)))
                            all_goals clear HI6
                            all_goals refine (Read_walk w1.heap.size D M F (2 * i + 1 + 1) _ _ HI7.out.inv).mono ?_
                            all_goals rintro e w8 ⟨vb, rfl, o8, u8⟩
                            all_goals rw [HI7.out.same] at o8
                            all_goals obtain ⟨ab, cb8, hvb, _⟩ := Ow.sb o8
                            all_goals subst hvb
                            all_goals have HI8 := Hid.of (HI7.out.upTo u8)
                            all_goals have hcv1 := conv_sb (Ow.sb o8)
                            all_goals have hcv2 := conv_sb (Ow.sb HI8.out.own)
                            all_goals have HUs := Hid.of (Used_walk w1.heap.size D M F (2 * i + 1 + 1) _ w8 HI8.out.inv)
                            all_goals rw [HI8.out.same] at HUs
                            all_goals clear o8 u8 HI7
                            all_goals dsimp only
                            all_goals go_wp2_with fail
                            all_goals refine HUs.out.mono ?_
                            all_goals rintro e w9 ⟨rfl, rfl⟩
                            all_goals clear HUs hcv1 hcv2
                            all_goals dsimp only
                            all_goals go_wp2
                            all_goals go_roundw
                            all_goals first
                              | exact ⟨i + 1, by go_num, by omega, by omega, _, _, nw, rfl, Hid.of ⟨_, HI8.out⟩⟩
                              | (simp [intOf]; omega)
      · have hlt6z : ¬ (i : Int) < 60 := by omega
        have hltz : (i : Int) < (ps.length : Int) := by omega
        obtain ⟨s1, hI⟩ := hEnd
        have HUe := Hid.of hI.up
        clear hI hR
        go_wp2
        go_ret
        exact ⟨rfl, HUe.out⟩
    · have hltz : ¬ (i : Int) < (ps.length : Int) := by omega
      obtain ⟨s1, hI⟩ := hEnd
      have HUe := Hid.of hI.up
      clear hI hR
      go_wp2
      go_ret
      exact ⟨rfl, HUe.out⟩
end Go.Proofs.YtngagdfemdamdaaDoor
