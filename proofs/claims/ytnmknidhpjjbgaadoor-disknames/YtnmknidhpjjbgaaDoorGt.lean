import Derived.Test.YtnmknidhpjjbgaaDoorGv
import Derived.Laws.Cover1
import Derived.Sort.Walk0
namespace Go.Proofs.YtnmknidhpjjbgaaDoor
open Go.RowKit Go.Shelf TextNum ModNum
set_option maxRecDepth 100000 in
set_option maxHeartbeats 16000000 in
theorem names_walk (a : Option Addr) (os : List OP) (c : Nat) (px : ByteArray) (w : World) (hP : OpSl w a os c) (hG : ML w) (hV : 0 < w.heap.size) :
    Calls Tryd.prog 4 #[.slice a os.length c, .string px] w fun e w' => e = .returned (.bool true) ∧ Up w w' := by
  obtain ⟨i1, hi1, hz0, hz1, hz2⟩ := info_parts Tryd.infoStr
  obtain ⟨i2, hi2', hy0, hy1, hy2⟩ := info_parts Tryd.infoU8
  have HP := Hid.of hP
  have HNew := Hid.of (New_gen 1073741824 w.heap.size (by omega) w hG (Nat.le_refl _) hV)
  have hcap := hP.cap
  clear hP hG hV
  go_enter Tryd.func4, Tryd.ntmps4
  go_wp2_with fail
  refine HNew.out.mono ?_
  rintro e w2 ⟨D, M, L, rfl, k2, l2, u2⟩
  have HRm := Hid.of (Remove_no ⟨#[97]⟩ w2 k2 (by decide +kernel) (by simp) rfl (by simp) (by omega))
  have HU2 := Hid.of (And.intro u2 l2)
  clear k2 l2 u2 HNew
  dsimp only
  have hpn : ∀ w', (binOp .eql 24 (.pointer (some ⟨D, 0, none⟩)) (.pointer none)).run Tryd.prog w' = .ok (.bool false) w' := fun w' => by kernel_rfl
  go_wp2_with fail
  refine HRm.out.mono ?_
  rintro e w3 ⟨rfl, a3⟩
  have HJ3 := Hid.of (show NJ w w3 D 2 (acS (nwS 1073741824 M L)) (.slice none 0 0) (.slice none 0 0) from ⟨a3.1, up_disk HU2.out.1 HU2.out.2 a3.2.2, lo_disk HU2.out.1 HU2.out.2 a3.2.1, ⟨rfl, rfl, rfl⟩, ⟨World.ownsRow_nil _ _ _ _, World.ownsRow_nil _ _ _ _, (fun k hk => by cases hk), (fun k hk => by cases hk)⟩, (fun p hp => by cases hp), Nat.zero_le _⟩)
  clear a3 HRm HU2 hpn
  dsimp only
  go_wp2
  go_loopw [7, 8, 9] (fun v7 v8 v9 wr => ∃ i : Nat, v9 = .int .i64 (i : Int) ∧ i ≤ os.length ∧ i ≤ 200 ∧ ∃ an cn am cm n, v7 = .slice an n cn ∧ v8 = .slice am n cm ∧ Hid (∃ s, NJ w wr D (4 * i + 2) s (.slice an n cn) (.slice am n cm) ∧ s.nf.length = n)) (fun _ _ v9 _ => 200 - (intOf v9).toNat)
  case atStart => exact ⟨0, rfl, by omega, by omega, none, 0, none, 0, 0, rfl, rfl, Hid.of ⟨_, HJ3.out, rfl⟩⟩
  case round =>
    obtain ⟨i, rfl, hi, hi2, an, cn, am, cm, n, rfl, rfl, hR⟩ := hrel
    obtain ⟨s, hJ, hn⟩ := hR.out
    have HJ := Hid.of hJ
    have HN := Hid.of hn
    clear hR hJ HJ3
    by_cases hlt : i < os.length ∧ i < 200
    · obtain ⟨hlt, hlt2⟩ := hlt
      have hltz : (i : Int) < (os.length : Int) := by omega
      have hlt2z : (i : Int) < 200 := by omega
      obtain ⟨b, off, rfl, hr⟩ := HP.out.cells i hlt
      have HR := Hid.of (range_up hr HJ.out.up)
      have HOne := Hid.of (HP.out.one os[i] (List.getElem_mem hlt))
      clear hr
      obtain ⟨o, ho⟩ : ∃ o, os[i] = o := ⟨_, rfl⟩
      rw [ho] at HR HOne
      clear ho
      go_wp2_with (with_reducible show wpList _ _ _ ({ dst := _, op := Op.indexAddr 39 _ _, type := _, pos := _, after := _, guard := _ } :: _) _ _; refine Shut.out ?_)
      show wpList _ _ _ _ _ _
      refine wpList_val7 (.pointer (some ⟨b, off + i * 9, none⟩)) rfl (exec_idxOp i hlt rfl rfl rfl) ?_
      simp only [Act.put, List.setIfInBounds_toArray, List.set_cons_zero, List.set_cons_succ]
      refine wpList_load_mid rfl _ _ rfl b (off + i * 9) rfl (opc o) _ HR.out Tryd.underlying44 rfl infoOp ?_
      simp only [Act.put, List.setIfInBounds_toArray, List.set_cons_zero, List.set_cons_succ]
      go_wp2_with (with_reducible show wpList _ _ _ ({ dst := _, op := Op.store 44 _ _, type := _, pos := _, after := _, guard := _ } :: _) _ _; refine Shut.out ?_)
      show wpList _ _ _ _ _ _
      refine wpList_store_at rfl 44 _ _ rfl wr.heap.size (at_new wr 44 [.int .i64 0, .int .i64 0, .string ⟨#[]⟩, .string ⟨#[]⟩, .int .i64 0, .int .i64 0, .slice none 0 0, .slice none 0 0, .slice none 0 0]) (opc o) rfl rfl rfl infoOp (by simpa using HOne.out) ?_
      intro w4 hA4 hg4
      have HA4 := Hid.of hA4
      have HU4 := Hid.of (((Up.refl wr).alloc (.cells [.int .i64 0, .int .i64 0, .string ⟨#[]⟩, .string ⟨#[]⟩, .int .i64 0, .int .i64 0, .slice none 0 0, .slice none 0 0, .slice none 0 0].toArray 44)).by hg4 (fun g hg => by have := Option.some.inj hg; omega))
      generalize wr.heap.size = bo at *
      clear hA4 hg4 HR HOne
      simp only [Act.put]
      have c0 := HA4.out.cell (i := 0) rfl
      have c1 := HA4.out.cell (i := 1) rfl
      have c4 := HA4.out.cell (i := 4) rfl
      go_wp2_with fail
      refine (within8 o.d w4).mono ?_
      rintro e _ ⟨fr, hfr, rfl, rfl⟩
      dsimp only
      go_wp2_with fail
      refine (within8 o.at_ _).mono ?_
      rintro e _ ⟨to, hto, rfl, rfl⟩
      dsimp only
      clear c1 c4
      go_wp2_with fail
      refine (letters_walk fr (by omega) _).mono ?_
      rintro e w5 ⟨rfl, u5⟩
      have HU5 := Hid.of (HU4.out.trans u5)
      have HA5 := Hid.of (HA4.out.up u5)
      clear u5 HU4 HA4 c0
      dsimp only
      go_wp2_with fail
      refine (letters_walk to (by omega) _).mono ?_
      rintro e w6 ⟨rfl, u6⟩
      have HJ6 := Hid.of (HJ.out.upTo (HU5.out.trans u6))
      have HA6 := Hid.of (HA5.out.up u6)
      have hnA := ltr_nm fr (by omega)
      have hnB := ltr_nm to (by omega)
      have HnA := Hid.of hnA
      have HnB := Hid.of hnB
      clear u6 HU5 HA5 HJ hnA hnB hfr hto
      generalize ltr fr = A at *
      generalize ltr to = Bn at *
      have c0 := HA6.out.cell (i := 0) rfl
      have hnZ : n ≤ 1000 := by have := HJ6.out.len; have := HN.out; omega
      have HB6 := Hid.of (show bo < w6.heap.size from lt_of_at HA6.out)
      dsimp only
      go_wp2
      go_loopw [15, 16, 17, 18] (fun v15 v16 v17 v18 wq => ∃ j : Nat, v18 = .int .i64 (j : Int) ∧ j ≤ n ∧ ∃ ax cx ak ck q, v15 = .slice ax q cx ∧ v16 = .slice ak q ck ∧ ∃ mv : UInt8, v17 = .int .u8 (mv.toNat : Int) ∧ Hid (Up w6 wq ∧ (((s.nf.take j).filter (flq A Bn (decide (o.kd = 7)))).length = q) ∧ wq.ownsRow w6.heap.size 9 1 (.slice ax q cx) q (cst (((s.nf.take j).filter (flq A Bn (decide (o.kd = 7)))).map (·.1))) ∧ wq.ownsRow w6.heap.size 5 1 (.slice ak q ck) q (cb (((s.nf.take j).filter (flq A Bn (decide (o.kd = 7)))).map mkf)) ∧ mv = mvd (s.nf.take j) A)) (fun _ _ _ v18 _ => n - (intOf v18).toNat)
      case atStart => exact ⟨0, rfl, by omega, none, 0, none, 0, 0, rfl, rfl, 0, rfl, Hid.of ⟨Up.refl _, rfl, World.ownsRow_nil _ _ _ _, World.ownsRow_nil _ _ _ _, rfl⟩⟩
      case round =>
        obtain ⟨j, rfl, hj, ax, cx, ak, ck, q, rfl, rfl, mv, rfl, hQ⟩ := hrel
        have HQ := Hid.of hQ.out
        clear hQ
        by_cases hjl : j < n
        · have hjlz : (j : Int) < (n : Int) := by omega
          have hns := HJ6.out.rw_.ns
          have hms := HJ6.out.rw_.ms
          have hjs : j < s.nf.length := by have := HN.out; omega
          unfold OwS at hns
          unfold Ow at hms
          rw [List.length_map, HN.out] at hns hms
          obtain ⟨gn, rfl, hcn, hx1, k1⟩ := own_get hns hjl
          obtain ⟨gm, rfl, hcm, hx2, k2⟩ := own_get hms hjl
          have hcnz : (n : Int) ≤ (cn : Int) := by omega
          have hcmz : (n : Int) ≤ (cm : Int) := by omega
          obtain ⟨p, hp⟩ : ∃ p, s.nf[j] = p := ⟨_, rfl⟩
          have e1 : (cst (s.nf.map (·.1)))[j] = .string ⟨p.1.toArray⟩ := by simp [cst, hp]
          have e2 : (cb (s.nf.map mkf))[j] = .int .u8 ((mkf p).toNat : Int) := by simp [cb, hp]
          rw [e1] at k1
          rw [e2] at k2
          have HK2 := Hid.of k2
          have k1 := HQ.out.1.cell k1
          have k2 := HQ.out.1.cell k2
          have HF := Hid.of (flt_take hjs (flq A Bn (decide (o.kd = 7))))
          have HM := Hid.of (mvd_take hjs A)
          rw [hp] at HF HM
          have hko := HQ.out.1.cell c0
          have hq : q ≤ 1000 := by
            have h1 := HQ.out.2.1
            have h2 := List.length_filter_le (flq A Bn (decide (o.kd = 7))) (s.nf.take j)
            rw [List.length_take] at h2
            omega
          clear e1 e2 hx1 hx2 hns hms hp hcn hcm
          by_cases hA : p.1 = A
          · have s1 := (bs_eq p.1 A).trans (beq_iff_eq.2 hA)
            have HX := Hid.of (HF.out.trans (by rw [if_neg (by unfold flq; rw [beq_iff_eq.2 hA]; simp), List.append_nil]))
            have HMv := Hid.of (HM.out.trans (if_pos (beq_iff_eq.2 hA)))
            go_wp2
            go_roundw
            case rel =>
              refine ⟨j + 1, by go_num, by omega, ax, cx, ak, ck, q, rfl, rfl, mkf p, rfl, Hid.of ?_⟩
              rw [HX.out, HMv.out]
              exact ⟨HQ.out.1, HQ.out.2.1, HQ.out.2.2.1, HQ.out.2.2.2.1, rfl⟩
            case measure => simp [intOf]; omega
          · have hAb : (p.1 == A) = false := by rw [beq_eq_false_iff_ne]; exact hA
            have s1 := (bs_eq p.1 A).trans hAb
            have HMv := Hid.of (HM.out.trans (if_neg (by rw [hAb]; decide)))
            by_cases hB : p.1 = Bn ∧ o.kd = 7
            · have HX := Hid.of (HF.out.trans (by rw [if_neg (by unfold flq; rw [beq_iff_eq.2 hB.1, hB.2]; simp), List.append_nil]))
              rw [hB.2] at hko
              rw [hB.1] at k1 s1 hA hAb
              clear hB
              go_wp2
              go_roundw
              case rel =>
                refine ⟨j + 1, by go_num, by omega, ax, cx, ak, ck, q, rfl, rfl, mv, rfl, Hid.of ?_⟩
                rw [HX.out, HMv.out]
                exact ⟨HQ.out.1, HQ.out.2.1, HQ.out.2.2.1, HQ.out.2.2.2.1, HQ.out.2.2.2.2⟩
              case measure => simp [intOf]; omega
            · have HX := Hid.of (HF.out.trans (by rw [if_pos (by
                unfold flq
                rw [hAb]
                by_cases h5 : p.1 = Bn
                · have h6 : o.kd ≠ 7 := fun h6 => hB ⟨h5, h6⟩
                  simp [h6]
                · simp [h5])]))
              have hgd : ((p.1 == Bn) = false) ∨ ((p.1 == Bn) = true ∧ (o.kd != 7) = true ∧ (o.kd == 7) = false ∧ ¬ o.kd = 7) := by
                by_cases h5 : p.1 = Bn
                · exact .inr ⟨beq_iff_eq.2 h5, by rw [bne_iff_ne]; exact fun h6 => hB ⟨h5, h6⟩, by rw [beq_eq_false_iff_ne]; exact fun h6 => hB ⟨h5, h6⟩, fun h6 => hB ⟨h5, h6⟩⟩
                · exact .inl (by rw [beq_eq_false_iff_ne]; exact h5)
              clear hB
              have HUx := Hid.of ((Up.refl wr).alloc (.cells [.string ⟨p.1.toArray⟩].toArray 9))
              have HFin : Hid (∀ (ax2 : Option Addr) (cx2 : Nat) (ak2 : Option Addr) (ck2 : Nat) (w9 : World), Up w6 w9 → w9.ownsRow w6.heap.size 9 1 (.slice ax2 (q + 1) cx2) (q + 1) (cst (((s.nf.take j).filter (flq A Bn (decide (o.kd = 7)))).map (·.1)) ++ [.string ⟨p.1.toArray⟩]) → w9.ownsRow w6.heap.size 5 1 (.slice ak2 (q + 1) ck2) (q + 1) (cb (((s.nf.take j).filter (flq A Bn (decide (o.kd = 7)))).map mkf) ++ [.int .u8 ((mkf p).toNat : Int)]) →
                  Hid (Up w6 w9 ∧ (((s.nf.take (j + 1)).filter (flq A Bn (decide (o.kd = 7)))).length = q + 1) ∧ w9.ownsRow w6.heap.size 9 1 (.slice ax2 (q + 1) cx2) (q + 1) (cst (((s.nf.take (j + 1)).filter (flq A Bn (decide (o.kd = 7)))).map (·.1))) ∧ w9.ownsRow w6.heap.size 5 1 (.slice ak2 (q + 1) ck2) (q + 1) (cb (((s.nf.take (j + 1)).filter (flq A Bn (decide (o.kd = 7)))).map mkf)) ∧ mv = mvd (s.nf.take (j + 1)) A)) := Hid.of (fun ax2 cx2 ak2 ck2 w9 h1 h2 h3 => Hid.of (by
                rw [HX.out, HMv.out, List.map_append, List.map_append, List.map_cons, List.map_cons, List.map_nil, List.map_nil, cst_snoc, cb_snoc, List.length_append]
                exact ⟨h1, by rw [HQ.out.2.1]; rfl, h2, h3, HQ.out.2.2.2.2⟩))
              clear HX HMv HF HM
              generalize mkf p = mp at *
              rcases hgd with hgd | ⟨hgd, s3, s4, s5⟩
              all_goals have s2 := (bs_eq p.1 Bn).trans hgd
              all_goals generalize p.1 = pn at *
              all_goals go_wp2_with (with_reducible show wpList _ _ _ ({ dst := _, op := Op.call { callee := Callee.builtin Builtin.append, args := _, argTypes := _ }, type := _, pos := _, after := _, guard := _ } :: _) _ _; refine Shut.out ?_)
              all_goals show wpList _ _ _ _ _ _
              all_goals refine wpList_append_frs rfl _ _ 40 rfl w6.heap.size 9 i1 (.string ⟨#[]⟩) 16 Tryd.underlying40 hi1 hz0 hz1 hz2 rfl (.slice ax q cx) q _ rfl (ow_up HQ.out.2.2.1 HUx.out) ⟨wr.heap.size, 0, none⟩ 1 1 [.string ⟨pn.toArray⟩] rfl rfl ?_ ?_ (by simp only [maxLen]; omega) (by omega) (by have := HQ.out.1.size; simp; omega) ?_
              all_goals first
                | (intro j u hu; rw [Addr.add_lit]; exact At.cell (at_new wr 9 [.string ⟨pn.toArray⟩]) (i := 0 + j) (by rw [Nat.zero_add]; exact hu))
                | (intro u hu; obtain rfl := List.mem_singleton.1 hu; rfl)
                | skip
              all_goals intro v8 w8 o8 g8 f8
              all_goals obtain ⟨ax2, cx2, rfl⟩ := row_len o8
              all_goals have HO8 := Hid.of o8
              all_goals have hU8 := up_grownBy (HQ.out.1.trans HUx.out) g8 (fun g hg => (World.ownsRow.lt HQ.out.2.2.1 g hg).1)
              all_goals have HU8 := Hid.of hU8
              all_goals have HK8 := Hid.of (World.ownsRow.kept (ow_up HQ.out.2.2.2.1 HUx.out) g8 (own_off (ow_up HQ.out.2.2.2.1 HUx.out) (ow_up HQ.out.2.2.1 HUx.out) (by decide)))
              all_goals have k3 := hU8.cell HK2.out
              all_goals clear o8 g8 f8 hU8 k1 k2 hko
              all_goals simp only [Act.put, List.setIfInBounds_toArray, List.set_cons_zero, List.set_cons_succ]
              all_goals have HUy := Hid.of ((Up.refl w8).alloc (.cells [.int .u8 (mp.toNat : Int)].toArray 5))
              all_goals go_wp2_with (with_reducible show wpList _ _ _ ({ dst := _, op := Op.call { callee := Callee.builtin Builtin.append, args := _, argTypes := _ }, type := _, pos := _, after := _, guard := _ } :: _) _ _; refine Shut.out ?_)
              all_goals show wpList _ _ _ _ _ _
              all_goals refine wpList_append_frs rfl _ _ 29 rfl w6.heap.size 5 i2 (.int .u8 0) 1 Tryd.underlying29 hi2' hy0 hy1 hy2 rfl (.slice ak q ck) q _ rfl (ow_up HK8.out HUy.out) ⟨w8.heap.size, 0, none⟩ 1 1 [.int .u8 (mp.toNat : Int)] rfl rfl ?_ ?_ (by simp only [maxLen]; omega) (by omega) (by have := HU8.out.size; simp; omega) ?_
              all_goals first
                | (intro j u hu; rw [Addr.add_lit]; exact At.cell (at_new w8 5 [.int .u8 (mp.toNat : Int)]) (i := 0 + j) (by rw [Nat.zero_add]; exact hu))
                | (intro u hu; obtain rfl := List.mem_singleton.1 hu; rfl)
                | skip
              all_goals intro v9 w9 o9 g9 f9
              all_goals obtain ⟨ak2, ck2, rfl⟩ := row_len o9
              all_goals have HP9 := Hid.of (HFin.out ax2 cx2 ak2 ck2 w9 (up_grownBy (HU8.out.trans HUy.out) g9 (fun g hg => (World.ownsRow.lt HK8.out g hg).1)) (World.ownsRow.kept (ow_up HO8.out HUy.out) g9 (own_off (ow_up HO8.out HUy.out) (ow_up HK8.out HUy.out) (by decide))) o9)
              all_goals clear o9 g9 f9 HUy k3 HK8 HO8 HU8 HFin
              all_goals simp only [Act.put, List.setIfInBounds_toArray, List.set_cons_zero, List.set_cons_succ]
              all_goals go_wp2
              all_goals go_roundw
              all_goals first
                | exact ⟨j + 1, by go_num, by omega, ax2, cx2, ak2, ck2, q + 1, rfl, rfl, mv, rfl, HP9.out⟩
                | (simp [intOf]; omega)
        · have hjz : ¬ (j : Int) < (n : Int) := by omega
          rw [show s.nf.take j = s.nf from List.take_of_length_le (by have := HN.out; omega)] at HQ
          have hko := HQ.out.1.cell c0
          have HJq := Hid.of (HJ6.out.upTo HQ.out.1)
          have hqn : q ≤ 1000 := by
            have h1 := HQ.out.2.1
            have h2 := List.length_filter_le (flq A Bn (decide (o.kd = 7))) s.nf
            have := HN.out
            omega
          have HRW := Hid.of (show RW wr w.heap.size D s (.slice ax q cx) ((s.nf.filter (flq A Bn (decide (o.kd = 7)))).map (·.1)) (.slice ak q ck) ((s.nf.filter (flq A Bn (decide (o.kd = 7)))).map mkf) from RW.new HJ6.out.ok (by unfold OwS; rw [List.length_map, HQ.out.2.1]; exact HQ.out.2.2.1) (by unfold Ow; rw [List.length_map, HQ.out.2.1]; exact HQ.out.2.2.2.1) HJ6.out.ok.hB)
          have HQ2 := Hid.of HQ.out.2.1
          have HMV := Hid.of HQ.out.2.2.2.2
          have HVW := Hid.of (show 0 < w.heap.size from HJq.out.ok.low.1)
          clear HQ HJ6 c0 HA6
          by_cases hk3 : o.kd = 3
          · as_aux_lemma =>
            rw [hk3] at hko HRW HQ2
            rw [show (decide ((3 : Int) = 7)) = false from rfl, flq_drp] at HRW HQ2
            obtain ⟨mk, hmk⟩ : ∃ mk : UInt8, mk.toNat = i % 255 + 1 := ⟨UInt8.ofNat (i % 255 + 1), by rw [UInt8.toNat_ofNat', Nat.mod_eq_of_lt (by omega)]⟩
            have hmz : (i : Int) % 255 + 1 = (mk.toNat : Int) := by omega
            have HM0 := Hid.of (show mk ≠ 0 from fun e => by rw [e] at hmk; simp at hmk)
            have HCr := Hid.of (Create_gen ⟨A.toArray⟩ wr HJq.out.ok HnA.out HJq.out.st.1 (by rw [HJq.out.st.2.1]; omega) (by rw [HJq.out.st.2.1]; omega) (by omega))
            clear hmk
            go_wp2_with fail
            refine HCr.out.mono ?_
            rintro e w7 ⟨rfl, F, bp, b2, vC, vLo, a7⟩
            obtain ⟨s7, hs7⟩ : ∃ s7, s7 = crS (acS s) ⟨A.toArray⟩ F bp b2 vC vLo := ⟨_, rfl⟩
            rw [← hs7] at a7
            have e7 : s7.nf = drp s.nf A ++ [(A, fnew F)] := by rw [hs7]; rfl
            have t7 : s7.dead = false ∧ s7.unt = 0 ∧ s7.room = 1073741824 := by
              rw [hs7]
              exact ⟨HJq.out.st.1, by show s.unt - 1 = 0; have := HJq.out.st.2.1; omega, HJq.out.st.2.2⟩
            have HA7 := Hid.of a7
            have HE7 := Hid.of (And.intro e7 t7)
            have HR7 := Hid.of (HRW.out.disk a7.2.2 a7.2.1)
            clear a7 e7 t7 hs7 HCr
            dsimp only
            have hu7 : usd s7.nf + 1 ≤ s7.room := by
              rw [HE7.out.2.2.2, HE7.out.1, usd_append, usd_cons]
              have h1 := usd_drp_le s.nf A HJq.out.ok.nd
              rw [usd_one HJq.out.one] at h1
              have h2 := HJq.out.len
              rw [show ((A, fnew F) : List UInt8 × FL).2.nb.length = 0 from rfl, show usd [] = 0 from rfl]
              omega
            have HUm := Hid.of ((Up.refl w7).alloc (.cells #[.int .u8 (mk.toNat : Int)] 5))
            have hWr := Write_gen ⟨A.toArray⟩ (fnew F) 0 (.slice (some ⟨w7.heap.size, 0, none⟩) 1 1) [mk] (w7.alloc (.cells #[.int .u8 (mk.toNat : Int)] 5)) (HA7.out.1.up HUm.out) (by rw [HE7.out.1]; exact List.mem_append_right _ List.mem_cons_self) ⟨some ⟨w7.heap.size, 0, none⟩, 1, rfl, Nat.le_refl _, by simp [maxLen], (fun e => by cases e), fun ad e => by
              obtain rfl := Option.some.inj e
              refine ⟨fun _ => rfl, fun j u hj => ?_⟩
              rw [Addr.add_lit]
              exact At.cell (at_new w7 5 [.int .u8 (mk.toNat : Int)]) (i := 0 + j) (by rw [Nat.zero_add]; exact hj)⟩ (fun e => by
              have h1 : w7.heap.size = D := Option.some.inj e
              have h2 := lt_of_at HA7.out.1.disk
              omega) (by simp) HE7.out.2.1 (by rw [HE7.out.2.2.1]; omega) (by rw [HE7.out.2.2.1]; omega) (by omega)
            have hz0 : wrF s7.room (usd s7.nf) (fnew F).nb.length 0 [mk].length = 0 := wrF_new hu7
            rw [hz0] at hWr
            have HWr := Hid.of hWr
            have HZ0 := Hid.of hz0
            clear hWr hz0 hu7
            go_wp2_with fail
            refine HWr.out.mono ?_
            rintro e w9 ⟨rfl, s9, a9, ws9⟩
            obtain ⟨vn9, vo9, vk9, ba9, bk9, hs9⟩ := ws9.2 HZ0.out (by simp)
            have hM9 := HJq.out.made HA7.out HUm.out a9 HE7.out.1 (f' := wtF (fnew F) 0 [mk] vn9 vo9 vk9 ba9 bk9 s7.trn) (by rw [hs9]; rfl) rfl HM0.out (by
              rw [hs9]
              exact ⟨HE7.out.2.1, by show s7.unt - 1 = 0; have := HE7.out.2.2.1; omega, HE7.out.2.2.2⟩)
            have HR9 := Hid.of ((HR7.out.up HUm.out).disk a9.2.2 a9.2.1)
            have hf9 : mkf (A, wtF (fnew F) 0 [mk] vn9 vo9 vk9 ba9 bk9 s7.trn) = mk := rfl
            generalize wtF (fnew F) 0 [mk] vn9 vo9 vk9 ba9 bk9 s7.trn = f9 at *
            have HM9 := Hid.of hM9
            have HF9 := Hid.of hf9
            clear a9 ws9 hs9 hM9 hf9 HWr HA7 HE7 HR7 HUm HZ0
            dsimp only
            go_wp2_with (with_reducible show wpList _ _ _ ({ dst := _, op := Op.call { callee := Callee.builtin Builtin.append, args := _, argTypes := _ }, type := _, pos := _, after := _, guard := _ } :: _) _ _; refine Shut.out ?_)
            show wpList _ _ _ _ _ _
            refine wpList_appName (W := w) (T := 4 * i + 2 + 4) (B := w.heap.size) rfl _ _ rfl ax cx A _ _ _ rfl rfl HR9.out (by rw [List.length_map]; exact HQ2.out) HM9.out.1 HM9.out.2.1 HVW.out (Nat.le_refl _) HM9.out.2.1.size (by omega) ?_
            intro ax2 cx2 w10 r10 d10 u10
            have HR10 := Hid.of r10
            have HD10 := Hid.of d10
            have HU10 := Hid.of u10
            clear r10 d10 u10 HR9
            simp only [Act.put, List.setIfInBounds_toArray, List.set_cons_zero, List.set_cons_succ]
            go_wp2_with (with_reducible show wpList _ _ _ ({ dst := _, op := Op.call { callee := Callee.builtin Builtin.append, args := _, argTypes := _ }, type := _, pos := _, after := _, guard := _ } :: _) _ _; refine Shut.out ?_)
            show wpList _ _ _ _ _ _
            refine wpList_appMark (W := w) (T := 4 * i + 2 + 4) (B := w.heap.size) rfl _ _ rfl ak ck mk _ _ _ rfl rfl HR10.out (by rw [List.length_map]; exact HQ2.out) HD10.out HU10.out HVW.out (Nat.le_refl _) HU10.out.size (by omega) ?_
            intro ak2 ck2 w11 r11 d11 u11
            have HFin := Hid.of (show NJ w w11 D (4 * (i + 1) + 2) s9 (.slice ax2 (q + 1) cx2) (.slice ak2 (q + 1) ck2) ∧ s9.nf.length = q + 1 from by
              obtain ⟨_, _, m3, m4, m5, m6, m7⟩ := HM9.out
              refine ⟨⟨d11.more (by omega) (by omega), u11, m3, m4, ?_, m6, by omega⟩, ?_⟩
              · rw [m5, List.map_append, List.map_append, List.map_cons, List.map_cons, List.map_nil, List.map_nil, HF9.out]
                exact r11
              · rw [m5, List.length_append, HQ2.out]; rfl)
            clear r11 d11 u11 HM9 HR10 HD10 HU10
            simp only [Act.put, List.setIfInBounds_toArray, List.set_cons_zero, List.set_cons_succ]
            go_wp2
            go_roundw
            all_goals first
              | exact ⟨i + 1, by go_num, by omega, by omega, ax2, cx2, ak2, ck2, q + 1, rfl, rfl, Hid.of ⟨s9, HFin.out⟩⟩
              | (simp [intOf]; omega)
          by_cases hk7 : o.kd = 7
          · rw [hk7] at hko HRW HQ2
            rw [show (decide ((7 : Int) = 7)) = true from rfl, flq_drp2] at HRW HQ2
            by_cases hth : A ∈ s.nf.map (·.1)
            · as_aux_lemma =>
              obtain ⟨xs0, f, ys0, es, _⟩ := nf_split hth HJq.out.ok.nd
              have hfm : (A, f) ∈ s.nf := by rw [es]; simp
              have hmv : mv = mkf (A, f) := by
                rw [HMV.out, es]
                exact mvd_yes (by rw [← es]; exact HJq.out.ok.nd)
              have hmv0 := (HJq.out.one _ hfm).2
              rw [← hmv] at hmv0
              have q0 : mv.toNat ≠ 0 := fun e => hmv0 (UInt8.toNat_inj.1 e)
              have q1 : ¬ (mv.toNat : Int) = 0 := by omega
              have q2 : ((mv.toNat : Int) != 0) = true := by rw [bne_iff_ne]; exact q1
              have q3 : ((mv.toNat : Int) == 0) = false := by rw [beq_eq_false_iff_ne]; exact q1
              have HFM := Hid.of hfm
              have HMF := Hid.of (And.intro hmv trivial)
              have HCr := Hid.of (Rename_yes ⟨A.toArray⟩ ⟨Bn.toArray⟩ f wr HJq.out.ok hfm HnB.out HJq.out.st.1 (by rw [HJq.out.st.2.1]; omega) (by rw [HJq.out.st.2.1]; omega) (by omega))
              clear hmv hmv0 hfm es hth
              go_wp2_with fail
              refine HCr.out.mono ?_
              rintro e w7 ⟨rfl, b1, b2, vC, vLo, a7⟩
              obtain ⟨s7, hs7⟩ : ∃ s7, s7 = rnS (acS s) ⟨A.toArray⟩ ⟨Bn.toArray⟩ f b1 b2 vC vLo := ⟨_, rfl⟩
              rw [← hs7] at a7
              have e7 : s7.nf = drp (drp s.nf A) Bn ++ [(Bn, f)] := by rw [hs7]; rfl
              have t7 : s7.dead = false ∧ s7.unt = 0 ∧ s7.room = 1073741824 := by
                rw [hs7]
                exact ⟨HJq.out.st.1, by show s.unt - 1 = 0; have := HJq.out.st.2.1; omega, HJq.out.st.2.2⟩
              have HE7 := Hid.of (And.intro e7 t7)
              have HR7 := Hid.of (HRW.out.disk a7.2.2 a7.2.1)
              have HD7 := Hid.of (And.intro a7.1 (And.intro (up_disk HJq.out.up HJq.out.lo a7.2.2) (lo_disk HJq.out.up HJq.out.lo a7.2.1)))
              clear a7 e7 t7 hs7 HCr
              dsimp only
              go_wp2_with (with_reducible show wpList _ _ _ ({ dst := _, op := Op.call { callee := Callee.builtin Builtin.append, args := _, argTypes := _ }, type := _, pos := _, after := _, guard := _ } :: _) _ _; refine Shut.out ?_)
              show wpList _ _ _ _ _ _
              refine wpList_appName (W := w) (T := 4 * i + 2 + 2) (B := w.heap.size) rfl _ _ rfl ax cx Bn _ _ _ rfl rfl HR7.out (by rw [List.length_map]; exact HQ2.out) HD7.out.1 HD7.out.2.1 HVW.out (Nat.le_refl _) HD7.out.2.1.size (by omega) ?_
              intro ax2 cx2 w10 r10 d10 u10
              have HR10 := Hid.of r10
              have HD10 := Hid.of d10
              have HU10 := Hid.of u10
              clear r10 d10 u10
              simp only [Act.put, List.setIfInBounds_toArray, List.set_cons_zero, List.set_cons_succ]
              go_wp2_with (with_reducible show wpList _ _ _ ({ dst := _, op := Op.call { callee := Callee.builtin Builtin.append, args := _, argTypes := _ }, type := _, pos := _, after := _, guard := _ } :: _) _ _; refine Shut.out ?_)
              show wpList _ _ _ _ _ _
              refine wpList_appMark (W := w) (T := 4 * i + 2 + 2) (B := w.heap.size) rfl _ _ rfl ak ck mv _ _ _ rfl rfl HR10.out (by rw [List.length_map]; exact HQ2.out) HD10.out HU10.out HVW.out (Nat.le_refl _) HU10.out.size (by omega) ?_
              intro ak2 ck2 w11 r11 d11 u11
              have HFin := Hid.of (show NJ w w11 D (4 * (i + 1) + 2) s7 (.slice ax2 (q + 1) cx2) (.slice ak2 (q + 1) ck2) ∧ s7.nf.length = q + 1 from by
                obtain ⟨m5, m4⟩ := HE7.out
                have e5 : mkf (Bn, f) = mv := HMF.out.1.symm
                have e6 : s7.nf.length = q + 1 := by rw [m5, List.length_append, HQ2.out]; rfl
                refine ⟨⟨d11.more (by omega) (by omega), u11, HD7.out.2.2, m4, ?_, fun p hp => ?_, by have := HJq.out.len; have := drp_len (drp s.nf A) Bn; have := drp_len s.nf A; have := HQ2.out; omega⟩, e6⟩
                · rw [m5, List.map_append, List.map_append, List.map_cons, List.map_cons, List.map_nil, List.map_nil, e5]
                  exact r11
                · rw [m5] at hp
                  rcases List.mem_append.1 hp with hp | hp
                  · exact HJq.out.one p (mem_drp.1 (mem_drp.1 hp).1).1
                  · obtain rfl := List.mem_singleton.1 hp
                    exact HJq.out.one (A, f) HFM.out)
              clear r11 d11 u11 HR10 HD10 HU10 HD7 HE7 HR7 HMF HFM
              simp only [Act.put, List.setIfInBounds_toArray, List.set_cons_zero, List.set_cons_succ]
              go_wp2
              go_roundw
              all_goals first
                | exact ⟨i + 1, by go_num, by omega, by omega, ax2, cx2, ak2, ck2, q + 1, rfl, rfl, Hid.of ⟨s7, HFin.out⟩⟩
                | (simp [intOf]; omega)
            · as_aux_lemma =>
              have hmv : mv = 0 := by rw [HMV.out]; exact mvd_no hth
              subst hmv
              have HCr := Hid.of (Rename_no ⟨A.toArray⟩ ⟨Bn.toArray⟩ wr HJq.out.ok HnA.out hth HnB.out HJq.out.st.1 (by rw [HJq.out.st.2.1]; omega) (by omega))
              clear hth
              go_wp2_with fail
              refine HCr.out.mono ?_
              rintro e w7 ⟨rfl, a7⟩
              have HFin := Hid.of (HJq.out.idle a7)
              clear a7 HCr
              dsimp only
              go_wp2
              go_roundw
              all_goals first
                | exact ⟨i + 1, by go_num, by omega, by omega, an, cn, am, cm, n, rfl, rfl, Hid.of ⟨acS s, ⟨HFin.out.ok.more (by omega) (by omega), HFin.out.up, HFin.out.lo, HFin.out.st, HFin.out.rw_, HFin.out.one, by have := HFin.out.len; omega⟩, HN.out⟩⟩
                | (simp [intOf]; omega)
          by_cases hk8 : o.kd = 8
          · rw [hk8] at hko HRW HQ2
            rw [show (decide ((8 : Int) = 7)) = false from rfl, flq_drp] at HRW HQ2
            by_cases hth : A ∈ s.nf.map (·.1)
            · as_aux_lemma =>
              obtain ⟨xs0, f, ys0, es, _⟩ := nf_split hth HJq.out.ok.nd
              have hfm : (A, f) ∈ s.nf := by rw [es]; simp
              have hmv : mv = mkf (A, f) := by
                rw [HMV.out, es]
                exact mvd_yes (by rw [← es]; exact HJq.out.ok.nd)
              have hmv0 := (HJq.out.one _ hfm).2
              rw [← hmv] at hmv0
              have q0 : mv.toNat ≠ 0 := fun e => hmv0 (UInt8.toNat_inj.1 e)
              have q1 : ¬ (mv.toNat : Int) = 0 := by omega
              have q2 : ((mv.toNat : Int) != 0) = true := by rw [bne_iff_ne]; exact q1
              have q3 : ((mv.toNat : Int) == 0) = false := by rw [beq_eq_false_iff_ne]; exact q1
              have HCr := Hid.of (Remove_yes ⟨A.toArray⟩ f wr HJq.out.ok hfm HJq.out.st.1 (by rw [HJq.out.st.2.1]; omega) (by rw [HJq.out.st.2.1]; omega) (by omega))
              clear hmv hmv0 hfm es hth
              go_wp2_with fail
              refine HCr.out.mono ?_
              rintro e w7 ⟨rfl, b2, vC, vLo, a7⟩
              obtain ⟨s7, hs7⟩ : ∃ s7, s7 = rmS (acS s) ⟨A.toArray⟩ b2 vC vLo := ⟨_, rfl⟩
              rw [← hs7] at a7
              have e7 : s7.nf = drp s.nf A := by rw [hs7]; rfl
              have t7 : s7.dead = false ∧ s7.unt = 0 ∧ s7.room = 1073741824 := by
                rw [hs7]
                exact ⟨HJq.out.st.1, by show s.unt - 1 = 0; have := HJq.out.st.2.1; omega, HJq.out.st.2.2⟩
              have HFin := Hid.of (show NJ w w7 D (4 * (i + 1) + 2) s7 (.slice ax q cx) (.slice ak q ck) ∧ s7.nf.length = q from by
                refine ⟨⟨a7.1.more (by omega) (by omega), up_disk HJq.out.up HJq.out.lo a7.2.2, lo_disk HJq.out.up HJq.out.lo a7.2.1, t7, ?_, fun p hp => ?_, by rw [e7]; have := HJq.out.len; have := drp_len s.nf A; omega⟩, by rw [e7]; exact HQ2.out⟩
                · rw [e7]
                  exact HRW.out.disk a7.2.2 a7.2.1
                · rw [e7] at hp
                  exact HJq.out.one p (mem_drp.1 hp).1)
              clear a7 e7 t7 hs7 HCr
              dsimp only
              go_wp2
              go_roundw
              all_goals first
                | exact ⟨i + 1, by go_num, by omega, by omega, ax, cx, ak, ck, q, rfl, rfl, Hid.of ⟨s7, HFin.out⟩⟩
                | (simp [intOf]; omega)
            · as_aux_lemma =>
              have hmv : mv = 0 := by rw [HMV.out]; exact mvd_no hth
              subst hmv
              have HCr := Hid.of (Remove_no ⟨A.toArray⟩ wr HJq.out.ok HnA.out hth HJq.out.st.1 (by rw [HJq.out.st.2.1]; omega) (by omega))
              have HDr := Hid.of (And.intro (drp_no hth) trivial)
              clear hth
              go_wp2_with fail
              refine HCr.out.mono ?_
              rintro e w7 ⟨rfl, a7⟩
              have HFin := Hid.of (show NJ w w7 D (4 * (i + 1) + 2) (acS s) (.slice ax q cx) (.slice ak q ck) ∧ s.nf.length = q from by
                have h9 := HJq.out.idle a7
                have r9 := HRW.out.disk a7.2.2 a7.2.1
                have h10 := HQ2.out
                rw [HDr.out.1] at r9 h10
                exact ⟨⟨h9.ok.more (by omega) (by omega), h9.up, h9.lo, h9.st, r9, h9.one, by have := h9.len; omega⟩, h10⟩)
              clear a7 HCr HDr
              dsimp only
              go_wp2
              go_roundw
              all_goals first
                | exact ⟨i + 1, by go_num, by omega, by omega, ax, cx, ak, ck, q, rfl, rfl, Hid.of ⟨acS s, HFin.out⟩⟩
                | (simp [intOf]; omega)
          · as_aux_lemma =>
            have r3 : (o.kd == 3) = false := by rw [beq_eq_false_iff_ne]; exact hk3
            have r7 : (o.kd == 7) = false := by rw [beq_eq_false_iff_ne]; exact hk7
            have r8 : (o.kd == 8) = false := by rw [beq_eq_false_iff_ne]; exact hk8
            clear HRW HQ2 HMV
            generalize o.kd = kd at *
            go_wp2
            go_roundw
            all_goals first
              | exact ⟨i + 1, by go_num, by omega, by omega, an, cn, am, cm, n, rfl, rfl, Hid.of ⟨s, ⟨HJq.out.ok.more (by omega) (by omega), HJq.out.up, HJq.out.lo, HJq.out.st, HJq.out.rw_, HJq.out.one, by have := HJq.out.len; omega⟩, HN.out⟩⟩
              | (simp [intOf]; omega)
    · have HJ := Hid.of HJ.out
      by_cases hlo : i < os.length
      · as_aux_lemma =>
        have hltz : (i : Int) < (os.length : Int) := by omega
        have hlt2z : ¬ (i : Int) < 200 := by omega
        have HLi := Hid.of (List_gen ⟨#[]⟩ wr HJ.out.ok HJ.out.st.1)
        go_wp2_with fail
        refine HLi.out.mono ?_
        rintro e w7 ⟨v7, rfl, q7, u7⟩
        replace q7 : SlS w7 v7 (srt (s.nf.map (·.1))) := by rw [← lsN_all]; exact q7
        have HJ7 := Hid.of (HJ.out.upTo u7)
        obtain ⟨Ls, hLs⟩ : ∃ Ls, Ls = srt (s.nf.map (·.1)) := ⟨_, rfl⟩
        rw [← hLs] at q7
        have HLl := Hid.of (show Ls.length = n by rw [hLs, srt_len, List.length_map]; exact HN.out)
        have HLt := Hid.of (show ∀ k (h1 : k < Ls.length) (h2 : k + 1 < Ls.length), Ls[k] < Ls[k + 1] by subst hLs; exact fun k h1 h2 => srt_lt HJ7.out.ok.nd h2)
        have HLx := Hid.of (show (lsN s.nf px.data.toList).length = (Ls.filter fun l => pfx px.data.toList l).length by rw [hLs]; exact lsN_len s.nf px.data.toList)
        clear u7 HLi HJ hLs
        obtain ⟨al, cl, rfl, hcl, hcells⟩ := q7
        have HCl := Hid.of hcells
        rw [HLl.out] at hcl ⊢
        have hclz : (n : Int) ≤ (cl : Int) := by omega
        have HUs := Hid.of (Used_gen w7 HJ7.out.ok HJ7.out.st.1)
        rw [usd_one HJ7.out.one, HN.out] at HUs
        have hn1 : n ≤ 1000 := by have := HJ7.out.len; have := HN.out; omega
        clear hcells hn
        dsimp only
        go_wp2_with fail
        refine HUs.out.mono ?_
        rintro e w8 ⟨rfl, rfl⟩
        clear HUs
        dsimp only
        go_wp2
        go_loopw [24, 25] (fun v24 v25 wq => ∃ i2 few : Nat, v25 = .int .i64 (i2 : Int) ∧ i2 ≤ n ∧ v24 = .int .i64 (few : Int) ∧ few ≤ i2 ∧ Hid (Up w8 wq ∧ few = ((Ls.take i2).filter fun l => pfx px.data.toList l).length)) (fun _ v25 _ => n - (intOf v25).toNat)
        case atStart => exact ⟨0, 0, rfl, by omega, rfl, by omega, Hid.of ⟨Up.refl _, rfl⟩⟩
        case round =>
          obtain ⟨i2, few, rfl, hi3, rfl, hfw, hQ⟩ := hrel
          have HQ := Hid.of hQ.out
          clear hQ
          by_cases hil : i2 < n
          · have hilz : (i2 : Int) < (n : Int) := by omega
            have hill : i2 < Ls.length := by rw [HLl.out]; exact hil
            rcases HCl.out with e0 | ⟨bl, ol, rfl, _, hcell⟩
            · exfalso; rw [e0] at hill; simp at hill
            have HK1 := Hid.of (hcell i2 hill)
            by_cases hi0 : i2 = 0
            · subst hi0
              replace HK1 : Hid (w8.cell? ⟨bl, ol, none⟩ = some (.string ⟨(Ls[0]).toArray⟩)) := HK1
              have k1 := HQ.out.1.cell HK1.out
              obtain ⟨x, hx⟩ : ∃ x, Ls[0] = x := ⟨_, rfl⟩
              rw [hx] at k1 HK1
              clear hcell
              rcases pfx_ways px x with ⟨hpx, hw1, hw2⟩ | ⟨hpx, hw⟩
              · as_aux_lemma =>
                have HFe := Hid.of (show few + 1 = ((Ls.take (0 + 1)).filter fun l => pfx px.data.toList l).length by rw [few_take hill, hx, if_pos hpx, ← HQ.out.2])
                clear hpx
                go_wp2
                go_quiet (fail)
                go_wp2
                go_loopw [26] (fun v26 wq => ∃ j : Nat, v26 = .int .i64 (j : Int) ∧ j ≤ n ∧ Hid (Up w8 wq)) (fun v26 _ => n - (intOf v26).toNat)
                case atStart => exact ⟨0, rfl, by omega, Hid.of (HQ.out.1.drewN _)⟩
                case round =>
                  obtain ⟨j, rfl, hj, hQj⟩ := hrel
                  have HQj := Hid.of hQj.out
                  clear hQj k1 
                  by_cases hjl : j < n
                  · have hjlz : (j : Int) < (n : Int) := by omega
                    have hns := HJ7.out.rw_.ns
                    have hms := HJ7.out.rw_.ms
                    have hjs : j < s.nf.length := by have := HN.out; omega
                    unfold OwS at hns
                    unfold Ow at hms
                    rw [List.length_map, HN.out] at hns hms
                    obtain ⟨gn, rfl, hcn, hx1, kn⟩ := own_get hns hjl
                    obtain ⟨gm, rfl, hcm, hx2, km⟩ := own_get hms hjl
                    have hcnz : (n : Int) ≤ (cn : Int) := by omega
                    have hcmz : (n : Int) ≤ (cm : Int) := by omega
                    have HPm := Hid.of (List.getElem_mem hjs)
                    obtain ⟨p, hp⟩ : ∃ p, s.nf[j] = p := ⟨_, rfl⟩
                    have e1 : (cst (s.nf.map (·.1)))[j] = .string ⟨p.1.toArray⟩ := by simp [cst, hp]
                    have e2 : (cb (s.nf.map mkf))[j] = .int .u8 ((mkf p).toNat : Int) := by simp [cb, hp]
                    rw [e1] at kn
                    rw [e2] at km
                    rw [hp] at HPm
                    have HKm := Hid.of km
                    have kn := HQj.out.cell kn
                    have kx := HQj.out.cell HK1.out
                    clear e1 e2 hx1 hx2 hns hms hp hcn hcm km
                    by_cases he : p.1 = x
                    · rw [he] at kn
                      have HRd := fun w9 (u9 : Up w8 w9) => Hid.of (Read_yes ⟨x.toArray⟩ p.2 w9 (HJ7.out.ok.up u9) (by have := HPm.out; rw [show ((⟨x.toArray⟩ : ByteArray).data.toList, p.2) = p from by rw [← he]]; exact this) HJ7.out.st.1)
                      have HOn := Hid.of (HJ7.out.one p HPm.out).1
                      clear he
                      go_wp2
                      go_quiet (fail)
                      go_wp2_with fail
                      refine (HRd _ (HQj.out.drewN _)).out.mono ?_
                      rintro e w9 ⟨v9, rfl, o9, u9⟩
                      rw [HOn.out] at o9
                      unfold Ow at o9
                      obtain ⟨a9, c9, rfl⟩ := row_len o9
                      obtain ⟨g9, rfl, hc9, hx9, k9⟩ := own_get o9 (j := 0) (by simp)
                      replace k9 : w9.cell? ⟨g9, 0, none⟩ = some (.int .u8 ((mkf p).toNat : Int)) := k9
                      have hU9 := (HQj.out.drewN _).trans u9
                      have km := hU9.cell HKm.out
                      have HU9 := Hid.of hU9
                      have hc9z : (1 : Int) ≤ (c9 : Int) := by simp only [List.length_singleton] at hc9; omega
                      clear o9 u9 hU9 kn kx HRd hx9 hc9
                      dsimp only [List.length_singleton]
                      go_wp2
                      go_quiet (fail)
                      go_wp2
                      go_roundw
                      all_goals first
                        | exact ⟨j + 1, by go_num, by omega, Hid.of (HU9.out.drewN _)⟩
                        | (simp [intOf]; omega)
                    · have s1 : (p.1 == x) = false := by rw [beq_eq_false_iff_ne]; exact he
                      have s2 := (bs_eq p.1 x).trans s1
                      go_wp2
                      go_quiet (fail)
                      go_wp2
                      go_roundw
                      all_goals first
                        | exact ⟨j + 1, by go_num, by omega, Hid.of (HQj.out.drewN _)⟩
                        | (simp [intOf]; omega)
                  · have hjz : ¬ (j : Int) < (n : Int) := by omega
                    go_wp2
                    go_roundw
                    all_goals first
                      | exact ⟨0 + 1, few + 1, by go_num, by omega, by go_num, by omega, Hid.of ⟨HQj.out, HFe.out⟩⟩
                      | (simp [intOf]; omega)
              · have HFe := Hid.of (show few = ((Ls.take (0 + 1)).filter fun l => pfx px.data.toList l).length by rw [few_take hill, hx, if_neg (by rw [hpx]; decide), Nat.add_zero, ← HQ.out.2])
                clear hpx
                rcases hw with ⟨hw1, hw2⟩ | hw1
                · as_aux_lemma =>
                  go_wp2
                  go_quiet (fail)
                  go_wp2
                  go_loopw [26] (fun v26 wq => ∃ j : Nat, v26 = .int .i64 (j : Int) ∧ j ≤ n ∧ Hid (Up w8 wq)) (fun v26 _ => n - (intOf v26).toNat)
                  case atStart => exact ⟨0, rfl, by omega, Hid.of (HQ.out.1.drewN _)⟩
                  case round =>
                    obtain ⟨j, rfl, hj, hQj⟩ := hrel
                    have HQj := Hid.of hQj.out
                    clear hQj k1 
                    by_cases hjl : j < n
                    · have hjlz : (j : Int) < (n : Int) := by omega
                      have hns := HJ7.out.rw_.ns
                      have hms := HJ7.out.rw_.ms
                      have hjs : j < s.nf.length := by have := HN.out; omega
                      unfold OwS at hns
                      unfold Ow at hms
                      rw [List.length_map, HN.out] at hns hms
                      obtain ⟨gn, rfl, hcn, hx1, kn⟩ := own_get hns hjl
                      obtain ⟨gm, rfl, hcm, hx2, km⟩ := own_get hms hjl
                      have hcnz : (n : Int) ≤ (cn : Int) := by omega
                      have hcmz : (n : Int) ≤ (cm : Int) := by omega
                      have HPm := Hid.of (List.getElem_mem hjs)
                      obtain ⟨p, hp⟩ : ∃ p, s.nf[j] = p := ⟨_, rfl⟩
                      have e1 : (cst (s.nf.map (·.1)))[j] = .string ⟨p.1.toArray⟩ := by simp [cst, hp]
                      have e2 : (cb (s.nf.map mkf))[j] = .int .u8 ((mkf p).toNat : Int) := by simp [cb, hp]
                      rw [e1] at kn
                      rw [e2] at km
                      rw [hp] at HPm
                      have HKm := Hid.of km
                      have kn := HQj.out.cell kn
                      have kx := HQj.out.cell HK1.out
                      clear e1 e2 hx1 hx2 hns hms hp hcn hcm km
                      by_cases he : p.1 = x
                      · rw [he] at kn
                        have HRd := fun w9 (u9 : Up w8 w9) => Hid.of (Read_yes ⟨x.toArray⟩ p.2 w9 (HJ7.out.ok.up u9) (by have := HPm.out; rw [show ((⟨x.toArray⟩ : ByteArray).data.toList, p.2) = p from by rw [← he]]; exact this) HJ7.out.st.1)
                        have HOn := Hid.of (HJ7.out.one p HPm.out).1
                        clear he
                        go_wp2
                        go_quiet (fail)
                        go_wp2_with fail
                        refine (HRd _ (HQj.out.drewN _)).out.mono ?_
                        rintro e w9 ⟨v9, rfl, o9, u9⟩
                        rw [HOn.out] at o9
                        unfold Ow at o9
                        obtain ⟨a9, c9, rfl⟩ := row_len o9
                        obtain ⟨g9, rfl, hc9, hx9, k9⟩ := own_get o9 (j := 0) (by simp)
                        replace k9 : w9.cell? ⟨g9, 0, none⟩ = some (.int .u8 ((mkf p).toNat : Int)) := k9
                        have hU9 := (HQj.out.drewN _).trans u9
                        have km := hU9.cell HKm.out
                        have HU9 := Hid.of hU9
                        have hc9z : (1 : Int) ≤ (c9 : Int) := by simp only [List.length_singleton] at hc9; omega
                        clear o9 u9 hU9 kn kx HRd hx9 hc9
                        dsimp only [List.length_singleton]
                        go_wp2
                        go_quiet (fail)
                        go_wp2
                        go_roundw
                        all_goals first
                          | exact ⟨j + 1, by go_num, by omega, Hid.of (HU9.out.drewN _)⟩
                          | (simp [intOf]; omega)
                      · have s1 : (p.1 == x) = false := by rw [beq_eq_false_iff_ne]; exact he
                        have s2 := (bs_eq p.1 x).trans s1
                        go_wp2
                        go_quiet (fail)
                        go_wp2
                        go_roundw
                        all_goals first
                          | exact ⟨j + 1, by go_num, by omega, Hid.of (HQj.out.drewN _)⟩
                          | (simp [intOf]; omega)
                    · have hjz : ¬ (j : Int) < (n : Int) := by omega
                      go_wp2
                      go_roundw
                      all_goals first
                        | exact ⟨0 + 1, few, by go_num, by omega, by go_num, by omega, Hid.of ⟨HQj.out, HFe.out⟩⟩
                        | (simp [intOf]; omega)
                · as_aux_lemma =>
                  go_wp2
                  go_quiet (fail)
                  go_wp2
                  go_loopw [26] (fun v26 wq => ∃ j : Nat, v26 = .int .i64 (j : Int) ∧ j ≤ n ∧ Hid (Up w8 wq)) (fun v26 _ => n - (intOf v26).toNat)
                  case atStart => exact ⟨0, rfl, by omega, Hid.of (HQ.out.1.drewN _)⟩
                  case round =>
                    obtain ⟨j, rfl, hj, hQj⟩ := hrel
                    have HQj := Hid.of hQj.out
                    clear hQj k1 
                    by_cases hjl : j < n
                    · have hjlz : (j : Int) < (n : Int) := by omega
                      have hns := HJ7.out.rw_.ns
                      have hms := HJ7.out.rw_.ms
                      have hjs : j < s.nf.length := by have := HN.out; omega
                      unfold OwS at hns
                      unfold Ow at hms
                      rw [List.length_map, HN.out] at hns hms
                      obtain ⟨gn, rfl, hcn, hx1, kn⟩ := own_get hns hjl
                      obtain ⟨gm, rfl, hcm, hx2, km⟩ := own_get hms hjl
                      have hcnz : (n : Int) ≤ (cn : Int) := by omega
                      have hcmz : (n : Int) ≤ (cm : Int) := by omega
                      have HPm := Hid.of (List.getElem_mem hjs)
                      obtain ⟨p, hp⟩ : ∃ p, s.nf[j] = p := ⟨_, rfl⟩
                      have e1 : (cst (s.nf.map (·.1)))[j] = .string ⟨p.1.toArray⟩ := by simp [cst, hp]
                      have e2 : (cb (s.nf.map mkf))[j] = .int .u8 ((mkf p).toNat : Int) := by simp [cb, hp]
                      rw [e1] at kn
                      rw [e2] at km
                      rw [hp] at HPm
                      have HKm := Hid.of km
                      have kn := HQj.out.cell kn
                      have kx := HQj.out.cell HK1.out
                      clear e1 e2 hx1 hx2 hns hms hp hcn hcm km
                      by_cases he : p.1 = x
                      · rw [he] at kn
                        have HRd := fun w9 (u9 : Up w8 w9) => Hid.of (Read_yes ⟨x.toArray⟩ p.2 w9 (HJ7.out.ok.up u9) (by have := HPm.out; rw [show ((⟨x.toArray⟩ : ByteArray).data.toList, p.2) = p from by rw [← he]]; exact this) HJ7.out.st.1)
                        have HOn := Hid.of (HJ7.out.one p HPm.out).1
                        clear he
                        go_wp2
                        go_quiet (fail)
                        go_wp2_with fail
                        refine (HRd _ (HQj.out.drewN _)).out.mono ?_
                        rintro e w9 ⟨v9, rfl, o9, u9⟩
                        rw [HOn.out] at o9
                        unfold Ow at o9
                        obtain ⟨a9, c9, rfl⟩ := row_len o9
                        obtain ⟨g9, rfl, hc9, hx9, k9⟩ := own_get o9 (j := 0) (by simp)
                        replace k9 : w9.cell? ⟨g9, 0, none⟩ = some (.int .u8 ((mkf p).toNat : Int)) := k9
                        have hU9 := (HQj.out.drewN _).trans u9
                        have km := hU9.cell HKm.out
                        have HU9 := Hid.of hU9
                        have hc9z : (1 : Int) ≤ (c9 : Int) := by simp only [List.length_singleton] at hc9; omega
                        clear o9 u9 hU9 kn kx HRd hx9 hc9
                        dsimp only [List.length_singleton]
                        go_wp2
                        go_quiet (fail)
                        go_wp2
                        go_roundw
                        all_goals first
                          | exact ⟨j + 1, by go_num, by omega, Hid.of (HU9.out.drewN _)⟩
                          | (simp [intOf]; omega)
                      · have s1 : (p.1 == x) = false := by rw [beq_eq_false_iff_ne]; exact he
                        have s2 := (bs_eq p.1 x).trans s1
                        go_wp2
                        go_quiet (fail)
                        go_wp2
                        go_roundw
                        all_goals first
                          | exact ⟨j + 1, by go_num, by omega, Hid.of (HQj.out.drewN _)⟩
                          | (simp [intOf]; omega)
                    · have hjz : ¬ (j : Int) < (n : Int) := by omega
                      go_wp2
                      go_roundw
                      all_goals first
                        | exact ⟨0 + 1, few, by go_num, by omega, by go_num, by omega, Hid.of ⟨HQj.out, HFe.out⟩⟩
                        | (simp [intOf]; omega)
            · obtain ⟨k, rfl⟩ : ∃ k, i2 = k + 1 := ⟨i2 - 1, by omega⟩
              have hkl : k < Ls.length := by omega
              have k0 := HQ.out.1.cell (hcell k hkl)
              have k1 := HQ.out.1.cell HK1.out
              have hkz : (k : Int) < (n : Int) := by omega
              have hkz2 : (k : Int) + 1 < (n : Int) := by omega
              obtain ⟨x, hx⟩ : ∃ x, Ls[k + 1] = x := ⟨_, rfl⟩
              obtain ⟨y, hy⟩ : ∃ y, Ls[k] = y := ⟨_, rfl⟩
              have hltx := HLt.out k hkl hill
              rw [hx, hy] at hltx
              rw [hx] at k1 HK1
              rw [hy] at k0
              have hbl : Op.bytesLess y x = true := by rw [bytesLess_eq]; exact decide_eq_true hltx
              have hbl2 : Op.bytesLess (⟨y.toArray⟩ : ByteArray).toList (⟨x.toArray⟩ : ByteArray).toList = true := by rw [ByteArray.toList_eq, ByteArray.toList_eq]; exact hbl
              clear hltx hcell
              rcases pfx_ways px x with ⟨hpx, hw1, hw2⟩ | ⟨hpx, hw⟩
              · as_aux_lemma =>
                have HFe := Hid.of (show few + 1 = ((Ls.take ((k + 1) + 1)).filter fun l => pfx px.data.toList l).length by rw [few_take hill, hx, if_pos hpx, ← HQ.out.2])
                clear hpx
                go_wp2
                go_quiet (fail)
                go_wp2
                go_loopw [26] (fun v26 wq => ∃ j : Nat, v26 = .int .i64 (j : Int) ∧ j ≤ n ∧ Hid (Up w8 wq)) (fun v26 _ => n - (intOf v26).toNat)
                case atStart => exact ⟨0, rfl, by omega, Hid.of (HQ.out.1.drewN _)⟩
                case round =>
                  obtain ⟨j, rfl, hj, hQj⟩ := hrel
                  have HQj := Hid.of hQj.out
                  clear hQj k1 k0
                  by_cases hjl : j < n
                  · have hjlz : (j : Int) < (n : Int) := by omega
                    have hns := HJ7.out.rw_.ns
                    have hms := HJ7.out.rw_.ms
                    have hjs : j < s.nf.length := by have := HN.out; omega
                    unfold OwS at hns
                    unfold Ow at hms
                    rw [List.length_map, HN.out] at hns hms
                    obtain ⟨gn, rfl, hcn, hx1, kn⟩ := own_get hns hjl
                    obtain ⟨gm, rfl, hcm, hx2, km⟩ := own_get hms hjl
                    have hcnz : (n : Int) ≤ (cn : Int) := by omega
                    have hcmz : (n : Int) ≤ (cm : Int) := by omega
                    have HPm := Hid.of (List.getElem_mem hjs)
                    obtain ⟨p, hp⟩ : ∃ p, s.nf[j] = p := ⟨_, rfl⟩
                    have e1 : (cst (s.nf.map (·.1)))[j] = .string ⟨p.1.toArray⟩ := by simp [cst, hp]
                    have e2 : (cb (s.nf.map mkf))[j] = .int .u8 ((mkf p).toNat : Int) := by simp [cb, hp]
                    rw [e1] at kn
                    rw [e2] at km
                    rw [hp] at HPm
                    have HKm := Hid.of km
                    have kn := HQj.out.cell kn
                    have kx := HQj.out.cell HK1.out
                    clear e1 e2 hx1 hx2 hns hms hp hcn hcm km
                    by_cases he : p.1 = x
                    · rw [he] at kn
                      have HRd := fun w9 (u9 : Up w8 w9) => Hid.of (Read_yes ⟨x.toArray⟩ p.2 w9 (HJ7.out.ok.up u9) (by have := HPm.out; rw [show ((⟨x.toArray⟩ : ByteArray).data.toList, p.2) = p from by rw [← he]]; exact this) HJ7.out.st.1)
                      have HOn := Hid.of (HJ7.out.one p HPm.out).1
                      clear he
                      go_wp2
                      go_quiet (fail)
                      go_wp2_with fail
                      refine (HRd _ (HQj.out.drewN _)).out.mono ?_
                      rintro e w9 ⟨v9, rfl, o9, u9⟩
                      rw [HOn.out] at o9
                      unfold Ow at o9
                      obtain ⟨a9, c9, rfl⟩ := row_len o9
                      obtain ⟨g9, rfl, hc9, hx9, k9⟩ := own_get o9 (j := 0) (by simp)
                      replace k9 : w9.cell? ⟨g9, 0, none⟩ = some (.int .u8 ((mkf p).toNat : Int)) := k9
                      have hU9 := (HQj.out.drewN _).trans u9
                      have km := hU9.cell HKm.out
                      have HU9 := Hid.of hU9
                      have hc9z : (1 : Int) ≤ (c9 : Int) := by simp only [List.length_singleton] at hc9; omega
                      clear o9 u9 hU9 kn kx HRd hx9 hc9
                      dsimp only [List.length_singleton]
                      go_wp2
                      go_quiet (fail)
                      go_wp2
                      go_roundw
                      all_goals first
                        | exact ⟨j + 1, by go_num, by omega, Hid.of (HU9.out.drewN _)⟩
                        | (simp [intOf]; omega)
                    · have s1 : (p.1 == x) = false := by rw [beq_eq_false_iff_ne]; exact he
                      have s2 := (bs_eq p.1 x).trans s1
                      go_wp2
                      go_quiet (fail)
                      go_wp2
                      go_roundw
                      all_goals first
                        | exact ⟨j + 1, by go_num, by omega, Hid.of (HQj.out.drewN _)⟩
                        | (simp [intOf]; omega)
                  · have hjz : ¬ (j : Int) < (n : Int) := by omega
                    go_wp2
                    go_roundw
                    all_goals first
                      | exact ⟨(k + 1) + 1, few + 1, by go_num, by omega, by go_num, by omega, Hid.of ⟨HQj.out, HFe.out⟩⟩
                      | (simp [intOf]; omega)
              · have HFe := Hid.of (show few = ((Ls.take ((k + 1) + 1)).filter fun l => pfx px.data.toList l).length by rw [few_take hill, hx, if_neg (by rw [hpx]; decide), Nat.add_zero, ← HQ.out.2])
                clear hpx
                rcases hw with ⟨hw1, hw2⟩ | hw1
                · as_aux_lemma =>
                  go_wp2
                  go_quiet (fail)
                  go_wp2
                  go_loopw [26] (fun v26 wq => ∃ j : Nat, v26 = .int .i64 (j : Int) ∧ j ≤ n ∧ Hid (Up w8 wq)) (fun v26 _ => n - (intOf v26).toNat)
                  case atStart => exact ⟨0, rfl, by omega, Hid.of (HQ.out.1.drewN _)⟩
                  case round =>
                    obtain ⟨j, rfl, hj, hQj⟩ := hrel
                    have HQj := Hid.of hQj.out
                    clear hQj k1 k0
                    by_cases hjl : j < n
                    · have hjlz : (j : Int) < (n : Int) := by omega
                      have hns := HJ7.out.rw_.ns
                      have hms := HJ7.out.rw_.ms
                      have hjs : j < s.nf.length := by have := HN.out; omega
                      unfold OwS at hns
                      unfold Ow at hms
                      rw [List.length_map, HN.out] at hns hms
                      obtain ⟨gn, rfl, hcn, hx1, kn⟩ := own_get hns hjl
                      obtain ⟨gm, rfl, hcm, hx2, km⟩ := own_get hms hjl
                      have hcnz : (n : Int) ≤ (cn : Int) := by omega
                      have hcmz : (n : Int) ≤ (cm : Int) := by omega
                      have HPm := Hid.of (List.getElem_mem hjs)
                      obtain ⟨p, hp⟩ : ∃ p, s.nf[j] = p := ⟨_, rfl⟩
                      have e1 : (cst (s.nf.map (·.1)))[j] = .string ⟨p.1.toArray⟩ := by simp [cst, hp]
                      have e2 : (cb (s.nf.map mkf))[j] = .int .u8 ((mkf p).toNat : Int) := by simp [cb, hp]
                      rw [e1] at kn
                      rw [e2] at km
                      rw [hp] at HPm
                      have HKm := Hid.of km
                      have kn := HQj.out.cell kn
                      have kx := HQj.out.cell HK1.out
                      clear e1 e2 hx1 hx2 hns hms hp hcn hcm km
                      by_cases he : p.1 = x
                      · rw [he] at kn
                        have HRd := fun w9 (u9 : Up w8 w9) => Hid.of (Read_yes ⟨x.toArray⟩ p.2 w9 (HJ7.out.ok.up u9) (by have := HPm.out; rw [show ((⟨x.toArray⟩ : ByteArray).data.toList, p.2) = p from by rw [← he]]; exact this) HJ7.out.st.1)
                        have HOn := Hid.of (HJ7.out.one p HPm.out).1
                        clear he
                        go_wp2
                        go_quiet (fail)
                        go_wp2_with fail
                        refine (HRd _ (HQj.out.drewN _)).out.mono ?_
                        rintro e w9 ⟨v9, rfl, o9, u9⟩
                        rw [HOn.out] at o9
                        unfold Ow at o9
                        obtain ⟨a9, c9, rfl⟩ := row_len o9
                        obtain ⟨g9, rfl, hc9, hx9, k9⟩ := own_get o9 (j := 0) (by simp)
                        replace k9 : w9.cell? ⟨g9, 0, none⟩ = some (.int .u8 ((mkf p).toNat : Int)) := k9
                        have hU9 := (HQj.out.drewN _).trans u9
                        have km := hU9.cell HKm.out
                        have HU9 := Hid.of hU9
                        have hc9z : (1 : Int) ≤ (c9 : Int) := by simp only [List.length_singleton] at hc9; omega
                        clear o9 u9 hU9 kn kx HRd hx9 hc9
                        dsimp only [List.length_singleton]
                        go_wp2
                        go_quiet (fail)
                        go_wp2
                        go_roundw
                        all_goals first
                          | exact ⟨j + 1, by go_num, by omega, Hid.of (HU9.out.drewN _)⟩
                          | (simp [intOf]; omega)
                      · have s1 : (p.1 == x) = false := by rw [beq_eq_false_iff_ne]; exact he
                        have s2 := (bs_eq p.1 x).trans s1
                        go_wp2
                        go_quiet (fail)
                        go_wp2
                        go_roundw
                        all_goals first
                          | exact ⟨j + 1, by go_num, by omega, Hid.of (HQj.out.drewN _)⟩
                          | (simp [intOf]; omega)
                    · have hjz : ¬ (j : Int) < (n : Int) := by omega
                      go_wp2
                      go_roundw
                      all_goals first
                        | exact ⟨(k + 1) + 1, few, by go_num, by omega, by go_num, by omega, Hid.of ⟨HQj.out, HFe.out⟩⟩
                        | (simp [intOf]; omega)
                · as_aux_lemma =>
                  go_wp2
                  go_quiet (fail)
                  go_wp2
                  go_loopw [26] (fun v26 wq => ∃ j : Nat, v26 = .int .i64 (j : Int) ∧ j ≤ n ∧ Hid (Up w8 wq)) (fun v26 _ => n - (intOf v26).toNat)
                  case atStart => exact ⟨0, rfl, by omega, Hid.of (HQ.out.1.drewN _)⟩
                  case round =>
                    obtain ⟨j, rfl, hj, hQj⟩ := hrel
                    have HQj := Hid.of hQj.out
                    clear hQj k1 k0
                    by_cases hjl : j < n
                    · have hjlz : (j : Int) < (n : Int) := by omega
                      have hns := HJ7.out.rw_.ns
                      have hms := HJ7.out.rw_.ms
                      have hjs : j < s.nf.length := by have := HN.out; omega
                      unfold OwS at hns
                      unfold Ow at hms
                      rw [List.length_map, HN.out] at hns hms
                      obtain ⟨gn, rfl, hcn, hx1, kn⟩ := own_get hns hjl
                      obtain ⟨gm, rfl, hcm, hx2, km⟩ := own_get hms hjl
                      have hcnz : (n : Int) ≤ (cn : Int) := by omega
                      have hcmz : (n : Int) ≤ (cm : Int) := by omega
                      have HPm := Hid.of (List.getElem_mem hjs)
                      obtain ⟨p, hp⟩ : ∃ p, s.nf[j] = p := ⟨_, rfl⟩
                      have e1 : (cst (s.nf.map (·.1)))[j] = .string ⟨p.1.toArray⟩ := by simp [cst, hp]
                      have e2 : (cb (s.nf.map mkf))[j] = .int .u8 ((mkf p).toNat : Int) := by simp [cb, hp]
                      rw [e1] at kn
                      rw [e2] at km
                      rw [hp] at HPm
                      have HKm := Hid.of km
                      have kn := HQj.out.cell kn
                      have kx := HQj.out.cell HK1.out
                      clear e1 e2 hx1 hx2 hns hms hp hcn hcm km
                      by_cases he : p.1 = x
                      · rw [he] at kn
                        have HRd := fun w9 (u9 : Up w8 w9) => Hid.of (Read_yes ⟨x.toArray⟩ p.2 w9 (HJ7.out.ok.up u9) (by have := HPm.out; rw [show ((⟨x.toArray⟩ : ByteArray).data.toList, p.2) = p from by rw [← he]]; exact this) HJ7.out.st.1)
                        have HOn := Hid.of (HJ7.out.one p HPm.out).1
                        clear he
                        go_wp2
                        go_quiet (fail)
                        go_wp2_with fail
                        refine (HRd _ (HQj.out.drewN _)).out.mono ?_
                        rintro e w9 ⟨v9, rfl, o9, u9⟩
                        rw [HOn.out] at o9
                        unfold Ow at o9
                        obtain ⟨a9, c9, rfl⟩ := row_len o9
                        obtain ⟨g9, rfl, hc9, hx9, k9⟩ := own_get o9 (j := 0) (by simp)
                        replace k9 : w9.cell? ⟨g9, 0, none⟩ = some (.int .u8 ((mkf p).toNat : Int)) := k9
                        have hU9 := (HQj.out.drewN _).trans u9
                        have km := hU9.cell HKm.out
                        have HU9 := Hid.of hU9
                        have hc9z : (1 : Int) ≤ (c9 : Int) := by simp only [List.length_singleton] at hc9; omega
                        clear o9 u9 hU9 kn kx HRd hx9 hc9
                        dsimp only [List.length_singleton]
                        go_wp2
                        go_quiet (fail)
                        go_wp2
                        go_roundw
                        all_goals first
                          | exact ⟨j + 1, by go_num, by omega, Hid.of (HU9.out.drewN _)⟩
                          | (simp [intOf]; omega)
                      · have s1 : (p.1 == x) = false := by rw [beq_eq_false_iff_ne]; exact he
                        have s2 := (bs_eq p.1 x).trans s1
                        go_wp2
                        go_quiet (fail)
                        go_wp2
                        go_roundw
                        all_goals first
                          | exact ⟨j + 1, by go_num, by omega, Hid.of (HQj.out.drewN _)⟩
                          | (simp [intOf]; omega)
                    · have hjz : ¬ (j : Int) < (n : Int) := by omega
                      go_wp2
                      go_roundw
                      all_goals first
                        | exact ⟨(k + 1) + 1, few, by go_num, by omega, by go_num, by omega, Hid.of ⟨HQj.out, HFe.out⟩⟩
                        | (simp [intOf]; omega)
          · as_aux_lemma =>
            have hilz : ¬ (i2 : Int) < (n : Int) := by omega
            rw [show Ls.take i2 = Ls from List.take_of_length_le (by have := HLl.out; omega), ← HLx.out] at HQ
            have HLi := Hid.of (List_gen px wr (HJ7.out.ok.up HQ.out.1) HJ7.out.st.1)
            go_wp2_with fail
            refine HLi.out.mono ?_
            rintro e w9 ⟨v9, rfl, q9, u9⟩
            have HU9 := Hid.of (HQ.out.1.trans u9)
            have HFew := Hid.of HQ.out.2
            have HPx := Hid.of (fun l (hl : l ∈ lsN s.nf px.data.toList) => lsN_pfx hl)
            generalize lsN s.nf px.data.toList = Lp at *
            obtain ⟨ap, cp, rfl, hcp, hcells⟩ := q9
            have HCp := Hid.of hcells
            obtain ⟨np, hnp⟩ : ∃ np, Lp.length = np := ⟨_, rfl⟩
            have HNp := Hid.of hnp
            rw [hnp] at hcp ⊢
            have hcpz : (np : Int) ≤ (cp : Int) := by omega
            have hfew : few = np := by rw [HFew.out]; exact hnp
            subst hfew
            clear hcells hnp u9 HLi HQ HFew
            dsimp only
            go_wp2
            go_loopw [30] (fun v30 wq => ∃ j : Nat, v30 = .int .i64 (j : Int) ∧ j ≤ few ∧ Hid (Up w9 wq)) (fun v30 _ => few - (intOf v30).toNat)
            case atStart => exact ⟨0, rfl, by omega, Hid.of (Up.refl _)⟩
            case round =>
              obtain ⟨j, rfl, hj, hQj⟩ := hrel
              have HQj := Hid.of hQj.out
              clear hQj
              by_cases hjl : j < few
              · have hjlz : (j : Int) < (few : Int) := by omega
                have hjp : j < Lp.length := by rw [HNp.out]; exact hjl
                rcases HCp.out with e0 | ⟨bp, op, rfl, _, hcell⟩
                · exfalso; rw [e0] at hjp; simp at hjp
                have kx := HQj.out.cell (hcell j hjp)
                have hpx := HPx.out Lp[j] (List.getElem_mem hjp)
                obtain ⟨x, hx⟩ : ∃ x, Lp[j] = x := ⟨_, rfl⟩
                rw [hx] at kx hpx
                rcases pfx_ways px x with ⟨_, hw1, hw2⟩ | ⟨hpn, _⟩
                · have hw3 : ¬ x.length < px.size := by omega
                  clear hpx hx hcell
                  go_wp2
                  go_roundw
                  all_goals first
                    | exact ⟨j + 1, by go_num, by omega, HQj⟩
                    | (simp [intOf]; omega)
                · rw [hpx] at hpn; cases hpn
              · have hjz : ¬ (j : Int) < (few : Int) := by omega
                obtain rfl : j = few := by omega
                go_wp2
                go_ret
                exact ⟨rfl, HJ7.out.up.trans (HU9.out.trans HQj.out)⟩
      · as_aux_lemma =>
        have hltz : ¬ (i : Int) < (os.length : Int) := by omega
        have HLi := Hid.of (List_gen ⟨#[]⟩ wr HJ.out.ok HJ.out.st.1)
        go_wp2_with fail
        refine HLi.out.mono ?_
        rintro e w7 ⟨v7, rfl, q7, u7⟩
        replace q7 : SlS w7 v7 (srt (s.nf.map (·.1))) := by rw [← lsN_all]; exact q7
        have HJ7 := Hid.of (HJ.out.upTo u7)
        obtain ⟨Ls, hLs⟩ : ∃ Ls, Ls = srt (s.nf.map (·.1)) := ⟨_, rfl⟩
        rw [← hLs] at q7
        have HLl := Hid.of (show Ls.length = n by rw [hLs, srt_len, List.length_map]; exact HN.out)
        have HLt := Hid.of (show ∀ k (h1 : k < Ls.length) (h2 : k + 1 < Ls.length), Ls[k] < Ls[k + 1] by subst hLs; exact fun k h1 h2 => srt_lt HJ7.out.ok.nd h2)
        have HLx := Hid.of (show (lsN s.nf px.data.toList).length = (Ls.filter fun l => pfx px.data.toList l).length by rw [hLs]; exact lsN_len s.nf px.data.toList)
        clear u7 HLi HJ hLs
        obtain ⟨al, cl, rfl, hcl, hcells⟩ := q7
        have HCl := Hid.of hcells
        rw [HLl.out] at hcl ⊢
        have hclz : (n : Int) ≤ (cl : Int) := by omega
        have HUs := Hid.of (Used_gen w7 HJ7.out.ok HJ7.out.st.1)
        rw [usd_one HJ7.out.one, HN.out] at HUs
        have hn1 : n ≤ 1000 := by have := HJ7.out.len; have := HN.out; omega
        clear hcells hn
        dsimp only
        go_wp2_with fail
        refine HUs.out.mono ?_
        rintro e w8 ⟨rfl, rfl⟩
        clear HUs
        dsimp only
        go_wp2
        go_loopw [24, 25] (fun v24 v25 wq => ∃ i2 few : Nat, v25 = .int .i64 (i2 : Int) ∧ i2 ≤ n ∧ v24 = .int .i64 (few : Int) ∧ few ≤ i2 ∧ Hid (Up w8 wq ∧ few = ((Ls.take i2).filter fun l => pfx px.data.toList l).length)) (fun _ v25 _ => n - (intOf v25).toNat)
        case atStart => exact ⟨0, 0, rfl, by omega, rfl, by omega, Hid.of ⟨Up.refl _, rfl⟩⟩
        case round =>
          obtain ⟨i2, few, rfl, hi3, rfl, hfw, hQ⟩ := hrel
          have HQ := Hid.of hQ.out
          clear hQ
          by_cases hil : i2 < n
          · have hilz : (i2 : Int) < (n : Int) := by omega
            have hill : i2 < Ls.length := by rw [HLl.out]; exact hil
            rcases HCl.out with e0 | ⟨bl, ol, rfl, _, hcell⟩
            · exfalso; rw [e0] at hill; simp at hill
            have HK1 := Hid.of (hcell i2 hill)
            by_cases hi0 : i2 = 0
            · subst hi0
              replace HK1 : Hid (w8.cell? ⟨bl, ol, none⟩ = some (.string ⟨(Ls[0]).toArray⟩)) := HK1
              have k1 := HQ.out.1.cell HK1.out
              obtain ⟨x, hx⟩ : ∃ x, Ls[0] = x := ⟨_, rfl⟩
              rw [hx] at k1 HK1
              clear hcell
              rcases pfx_ways px x with ⟨hpx, hw1, hw2⟩ | ⟨hpx, hw⟩
              · as_aux_lemma =>
                have HFe := Hid.of (show few + 1 = ((Ls.take (0 + 1)).filter fun l => pfx px.data.toList l).length by rw [few_take hill, hx, if_pos hpx, ← HQ.out.2])
                clear hpx
                go_wp2
                go_quiet (fail)
                go_wp2
                go_loopw [26] (fun v26 wq => ∃ j : Nat, v26 = .int .i64 (j : Int) ∧ j ≤ n ∧ Hid (Up w8 wq)) (fun v26 _ => n - (intOf v26).toNat)
                case atStart => exact ⟨0, rfl, by omega, Hid.of (HQ.out.1.drewN _)⟩
                case round =>
                  obtain ⟨j, rfl, hj, hQj⟩ := hrel
                  have HQj := Hid.of hQj.out
                  clear hQj k1 
                  by_cases hjl : j < n
                  · have hjlz : (j : Int) < (n : Int) := by omega
                    have hns := HJ7.out.rw_.ns
                    have hms := HJ7.out.rw_.ms
                    have hjs : j < s.nf.length := by have := HN.out; omega
                    unfold OwS at hns
                    unfold Ow at hms
                    rw [List.length_map, HN.out] at hns hms
                    obtain ⟨gn, rfl, hcn, hx1, kn⟩ := own_get hns hjl
                    obtain ⟨gm, rfl, hcm, hx2, km⟩ := own_get hms hjl
                    have hcnz : (n : Int) ≤ (cn : Int) := by omega
                    have hcmz : (n : Int) ≤ (cm : Int) := by omega
                    have HPm := Hid.of (List.getElem_mem hjs)
                    obtain ⟨p, hp⟩ : ∃ p, s.nf[j] = p := ⟨_, rfl⟩
                    have e1 : (cst (s.nf.map (·.1)))[j] = .string ⟨p.1.toArray⟩ := by simp [cst, hp]
                    have e2 : (cb (s.nf.map mkf))[j] = .int .u8 ((mkf p).toNat : Int) := by simp [cb, hp]
                    rw [e1] at kn
                    rw [e2] at km
                    rw [hp] at HPm
                    have HKm := Hid.of km
                    have kn := HQj.out.cell kn
                    have kx := HQj.out.cell HK1.out
                    clear e1 e2 hx1 hx2 hns hms hp hcn hcm km
                    by_cases he : p.1 = x
                    · rw [he] at kn
                      have HRd := fun w9 (u9 : Up w8 w9) => Hid.of (Read_yes ⟨x.toArray⟩ p.2 w9 (HJ7.out.ok.up u9) (by have := HPm.out; rw [show ((⟨x.toArray⟩ : ByteArray).data.toList, p.2) = p from by rw [← he]]; exact this) HJ7.out.st.1)
                      have HOn := Hid.of (HJ7.out.one p HPm.out).1
                      clear he
                      go_wp2
                      go_quiet (fail)
                      go_wp2_with fail
                      refine (HRd _ (HQj.out.drewN _)).out.mono ?_
                      rintro e w9 ⟨v9, rfl, o9, u9⟩
                      rw [HOn.out] at o9
                      unfold Ow at o9
                      obtain ⟨a9, c9, rfl⟩ := row_len o9
                      obtain ⟨g9, rfl, hc9, hx9, k9⟩ := own_get o9 (j := 0) (by simp)
                      replace k9 : w9.cell? ⟨g9, 0, none⟩ = some (.int .u8 ((mkf p).toNat : Int)) := k9
                      have hU9 := (HQj.out.drewN _).trans u9
                      have km := hU9.cell HKm.out
                      have HU9 := Hid.of hU9
                      have hc9z : (1 : Int) ≤ (c9 : Int) := by simp only [List.length_singleton] at hc9; omega
                      clear o9 u9 hU9 kn kx HRd hx9 hc9
                      dsimp only [List.length_singleton]
                      go_wp2
                      go_quiet (fail)
                      go_wp2
                      go_roundw
                      all_goals first
                        | exact ⟨j + 1, by go_num, by omega, Hid.of (HU9.out.drewN _)⟩
                        | (simp [intOf]; omega)
                    · have s1 : (p.1 == x) = false := by rw [beq_eq_false_iff_ne]; exact he
                      have s2 := (bs_eq p.1 x).trans s1
                      go_wp2
                      go_quiet (fail)
                      go_wp2
                      go_roundw
                      all_goals first
                        | exact ⟨j + 1, by go_num, by omega, Hid.of (HQj.out.drewN _)⟩
                        | (simp [intOf]; omega)
                  · have hjz : ¬ (j : Int) < (n : Int) := by omega
                    go_wp2
                    go_roundw
                    all_goals first
                      | exact ⟨0 + 1, few + 1, by go_num, by omega, by go_num, by omega, Hid.of ⟨HQj.out, HFe.out⟩⟩
                      | (simp [intOf]; omega)
              · have HFe := Hid.of (show few = ((Ls.take (0 + 1)).filter fun l => pfx px.data.toList l).length by rw [few_take hill, hx, if_neg (by rw [hpx]; decide), Nat.add_zero, ← HQ.out.2])
                clear hpx
                rcases hw with ⟨hw1, hw2⟩ | hw1
                · as_aux_lemma =>
                  go_wp2
                  go_quiet (fail)
                  go_wp2
                  go_loopw [26] (fun v26 wq => ∃ j : Nat, v26 = .int .i64 (j : Int) ∧ j ≤ n ∧ Hid (Up w8 wq)) (fun v26 _ => n - (intOf v26).toNat)
                  case atStart => exact ⟨0, rfl, by omega, Hid.of (HQ.out.1.drewN _)⟩
                  case round =>
                    obtain ⟨j, rfl, hj, hQj⟩ := hrel
                    have HQj := Hid.of hQj.out
                    clear hQj k1 
                    by_cases hjl : j < n
                    · have hjlz : (j : Int) < (n : Int) := by omega
                      have hns := HJ7.out.rw_.ns
                      have hms := HJ7.out.rw_.ms
                      have hjs : j < s.nf.length := by have := HN.out; omega
                      unfold OwS at hns
                      unfold Ow at hms
                      rw [List.length_map, HN.out] at hns hms
                      obtain ⟨gn, rfl, hcn, hx1, kn⟩ := own_get hns hjl
                      obtain ⟨gm, rfl, hcm, hx2, km⟩ := own_get hms hjl
                      have hcnz : (n : Int) ≤ (cn : Int) := by omega
                      have hcmz : (n : Int) ≤ (cm : Int) := by omega
                      have HPm := Hid.of (List.getElem_mem hjs)
                      obtain ⟨p, hp⟩ : ∃ p, s.nf[j] = p := ⟨_, rfl⟩
                      have e1 : (cst (s.nf.map (·.1)))[j] = .string ⟨p.1.toArray⟩ := by simp [cst, hp]
                      have e2 : (cb (s.nf.map mkf))[j] = .int .u8 ((mkf p).toNat : Int) := by simp [cb, hp]
                      rw [e1] at kn
                      rw [e2] at km
                      rw [hp] at HPm
                      have HKm := Hid.of km
                      have kn := HQj.out.cell kn
                      have kx := HQj.out.cell HK1.out
                      clear e1 e2 hx1 hx2 hns hms hp hcn hcm km
                      by_cases he : p.1 = x
                      · rw [he] at kn
                        have HRd := fun w9 (u9 : Up w8 w9) => Hid.of (Read_yes ⟨x.toArray⟩ p.2 w9 (HJ7.out.ok.up u9) (by have := HPm.out; rw [show ((⟨x.toArray⟩ : ByteArray).data.toList, p.2) = p from by rw [← he]]; exact this) HJ7.out.st.1)
                        have HOn := Hid.of (HJ7.out.one p HPm.out).1
                        clear he
                        go_wp2
                        go_quiet (fail)
                        go_wp2_with fail
                        refine (HRd _ (HQj.out.drewN _)).out.mono ?_
                        rintro e w9 ⟨v9, rfl, o9, u9⟩
                        rw [HOn.out] at o9
                        unfold Ow at o9
                        obtain ⟨a9, c9, rfl⟩ := row_len o9
                        obtain ⟨g9, rfl, hc9, hx9, k9⟩ := own_get o9 (j := 0) (by simp)
                        replace k9 : w9.cell? ⟨g9, 0, none⟩ = some (.int .u8 ((mkf p).toNat : Int)) := k9
                        have hU9 := (HQj.out.drewN _).trans u9
                        have km := hU9.cell HKm.out
                        have HU9 := Hid.of hU9
                        have hc9z : (1 : Int) ≤ (c9 : Int) := by simp only [List.length_singleton] at hc9; omega
                        clear o9 u9 hU9 kn kx HRd hx9 hc9
                        dsimp only [List.length_singleton]
                        go_wp2
                        go_quiet (fail)
                        go_wp2
                        go_roundw
                        all_goals first
                          | exact ⟨j + 1, by go_num, by omega, Hid.of (HU9.out.drewN _)⟩
                          | (simp [intOf]; omega)
                      · have s1 : (p.1 == x) = false := by rw [beq_eq_false_iff_ne]; exact he
                        have s2 := (bs_eq p.1 x).trans s1
                        go_wp2
                        go_quiet (fail)
                        go_wp2
                        go_roundw
                        all_goals first
                          | exact ⟨j + 1, by go_num, by omega, Hid.of (HQj.out.drewN _)⟩
                          | (simp [intOf]; omega)
                    · have hjz : ¬ (j : Int) < (n : Int) := by omega
                      go_wp2
                      go_roundw
                      all_goals first
                        | exact ⟨0 + 1, few, by go_num, by omega, by go_num, by omega, Hid.of ⟨HQj.out, HFe.out⟩⟩
                        | (simp [intOf]; omega)
                · as_aux_lemma =>
                  go_wp2
                  go_quiet (fail)
                  go_wp2
                  go_loopw [26] (fun v26 wq => ∃ j : Nat, v26 = .int .i64 (j : Int) ∧ j ≤ n ∧ Hid (Up w8 wq)) (fun v26 _ => n - (intOf v26).toNat)
                  case atStart => exact ⟨0, rfl, by omega, Hid.of (HQ.out.1.drewN _)⟩
                  case round =>
                    obtain ⟨j, rfl, hj, hQj⟩ := hrel
                    have HQj := Hid.of hQj.out
                    clear hQj k1 
                    by_cases hjl : j < n
                    · have hjlz : (j : Int) < (n : Int) := by omega
                      have hns := HJ7.out.rw_.ns
                      have hms := HJ7.out.rw_.ms
                      have hjs : j < s.nf.length := by have := HN.out; omega
                      unfold OwS at hns
                      unfold Ow at hms
                      rw [List.length_map, HN.out] at hns hms
                      obtain ⟨gn, rfl, hcn, hx1, kn⟩ := own_get hns hjl
                      obtain ⟨gm, rfl, hcm, hx2, km⟩ := own_get hms hjl
                      have hcnz : (n : Int) ≤ (cn : Int) := by omega
                      have hcmz : (n : Int) ≤ (cm : Int) := by omega
                      have HPm := Hid.of (List.getElem_mem hjs)
                      obtain ⟨p, hp⟩ : ∃ p, s.nf[j] = p := ⟨_, rfl⟩
                      have e1 : (cst (s.nf.map (·.1)))[j] = .string ⟨p.1.toArray⟩ := by simp [cst, hp]
                      have e2 : (cb (s.nf.map mkf))[j] = .int .u8 ((mkf p).toNat : Int) := by simp [cb, hp]
                      rw [e1] at kn
                      rw [e2] at km
                      rw [hp] at HPm
                      have HKm := Hid.of km
                      have kn := HQj.out.cell kn
                      have kx := HQj.out.cell HK1.out
                      clear e1 e2 hx1 hx2 hns hms hp hcn hcm km
                      by_cases he : p.1 = x
                      · rw [he] at kn
                        have HRd := fun w9 (u9 : Up w8 w9) => Hid.of (Read_yes ⟨x.toArray⟩ p.2 w9 (HJ7.out.ok.up u9) (by have := HPm.out; rw [show ((⟨x.toArray⟩ : ByteArray).data.toList, p.2) = p from by rw [← he]]; exact this) HJ7.out.st.1)
                        have HOn := Hid.of (HJ7.out.one p HPm.out).1
                        clear he
                        go_wp2
                        go_quiet (fail)
                        go_wp2_with fail
                        refine (HRd _ (HQj.out.drewN _)).out.mono ?_
                        rintro e w9 ⟨v9, rfl, o9, u9⟩
                        rw [HOn.out] at o9
                        unfold Ow at o9
                        obtain ⟨a9, c9, rfl⟩ := row_len o9
                        obtain ⟨g9, rfl, hc9, hx9, k9⟩ := own_get o9 (j := 0) (by simp)
                        replace k9 : w9.cell? ⟨g9, 0, none⟩ = some (.int .u8 ((mkf p).toNat : Int)) := k9
                        have hU9 := (HQj.out.drewN _).trans u9
                        have km := hU9.cell HKm.out
                        have HU9 := Hid.of hU9
                        have hc9z : (1 : Int) ≤ (c9 : Int) := by simp only [List.length_singleton] at hc9; omega
                        clear o9 u9 hU9 kn kx HRd hx9 hc9
                        dsimp only [List.length_singleton]
                        go_wp2
                        go_quiet (fail)
                        go_wp2
                        go_roundw
                        all_goals first
                          | exact ⟨j + 1, by go_num, by omega, Hid.of (HU9.out.drewN _)⟩
                          | (simp [intOf]; omega)
                      · have s1 : (p.1 == x) = false := by rw [beq_eq_false_iff_ne]; exact he
                        have s2 := (bs_eq p.1 x).trans s1
                        go_wp2
                        go_quiet (fail)
                        go_wp2
                        go_roundw
                        all_goals first
                          | exact ⟨j + 1, by go_num, by omega, Hid.of (HQj.out.drewN _)⟩
                          | (simp [intOf]; omega)
                    · have hjz : ¬ (j : Int) < (n : Int) := by omega
                      go_wp2
                      go_roundw
                      all_goals first
                        | exact ⟨0 + 1, few, by go_num, by omega, by go_num, by omega, Hid.of ⟨HQj.out, HFe.out⟩⟩
                        | (simp [intOf]; omega)
            · obtain ⟨k, rfl⟩ : ∃ k, i2 = k + 1 := ⟨i2 - 1, by omega⟩
              have hkl : k < Ls.length := by omega
              have k0 := HQ.out.1.cell (hcell k hkl)
              have k1 := HQ.out.1.cell HK1.out
              have hkz : (k : Int) < (n : Int) := by omega
              have hkz2 : (k : Int) + 1 < (n : Int) := by omega
              obtain ⟨x, hx⟩ : ∃ x, Ls[k + 1] = x := ⟨_, rfl⟩
              obtain ⟨y, hy⟩ : ∃ y, Ls[k] = y := ⟨_, rfl⟩
              have hltx := HLt.out k hkl hill
              rw [hx, hy] at hltx
              rw [hx] at k1 HK1
              rw [hy] at k0
              have hbl : Op.bytesLess y x = true := by rw [bytesLess_eq]; exact decide_eq_true hltx
              have hbl2 : Op.bytesLess (⟨y.toArray⟩ : ByteArray).toList (⟨x.toArray⟩ : ByteArray).toList = true := by rw [ByteArray.toList_eq, ByteArray.toList_eq]; exact hbl
              clear hltx hcell
              rcases pfx_ways px x with ⟨hpx, hw1, hw2⟩ | ⟨hpx, hw⟩
              · as_aux_lemma =>
                have HFe := Hid.of (show few + 1 = ((Ls.take ((k + 1) + 1)).filter fun l => pfx px.data.toList l).length by rw [few_take hill, hx, if_pos hpx, ← HQ.out.2])
                clear hpx
                go_wp2
                go_quiet (fail)
                go_wp2
                go_loopw [26] (fun v26 wq => ∃ j : Nat, v26 = .int .i64 (j : Int) ∧ j ≤ n ∧ Hid (Up w8 wq)) (fun v26 _ => n - (intOf v26).toNat)
                case atStart => exact ⟨0, rfl, by omega, Hid.of (HQ.out.1.drewN _)⟩
                case round =>
                  obtain ⟨j, rfl, hj, hQj⟩ := hrel
                  have HQj := Hid.of hQj.out
                  clear hQj k1 k0
                  by_cases hjl : j < n
                  · have hjlz : (j : Int) < (n : Int) := by omega
                    have hns := HJ7.out.rw_.ns
                    have hms := HJ7.out.rw_.ms
                    have hjs : j < s.nf.length := by have := HN.out; omega
                    unfold OwS at hns
                    unfold Ow at hms
                    rw [List.length_map, HN.out] at hns hms
                    obtain ⟨gn, rfl, hcn, hx1, kn⟩ := own_get hns hjl
                    obtain ⟨gm, rfl, hcm, hx2, km⟩ := own_get hms hjl
                    have hcnz : (n : Int) ≤ (cn : Int) := by omega
                    have hcmz : (n : Int) ≤ (cm : Int) := by omega
                    have HPm := Hid.of (List.getElem_mem hjs)
                    obtain ⟨p, hp⟩ : ∃ p, s.nf[j] = p := ⟨_, rfl⟩
                    have e1 : (cst (s.nf.map (·.1)))[j] = .string ⟨p.1.toArray⟩ := by simp [cst, hp]
                    have e2 : (cb (s.nf.map mkf))[j] = .int .u8 ((mkf p).toNat : Int) := by simp [cb, hp]
                    rw [e1] at kn
                    rw [e2] at km
                    rw [hp] at HPm
                    have HKm := Hid.of km
                    have kn := HQj.out.cell kn
                    have kx := HQj.out.cell HK1.out
                    clear e1 e2 hx1 hx2 hns hms hp hcn hcm km
                    by_cases he : p.1 = x
                    · rw [he] at kn
                      have HRd := fun w9 (u9 : Up w8 w9) => Hid.of (Read_yes ⟨x.toArray⟩ p.2 w9 (HJ7.out.ok.up u9) (by have := HPm.out; rw [show ((⟨x.toArray⟩ : ByteArray).data.toList, p.2) = p from by rw [← he]]; exact this) HJ7.out.st.1)
                      have HOn := Hid.of (HJ7.out.one p HPm.out).1
                      clear he
                      go_wp2
                      go_quiet (fail)
                      go_wp2_with fail
                      refine (HRd _ (HQj.out.drewN _)).out.mono ?_
                      rintro e w9 ⟨v9, rfl, o9, u9⟩
                      rw [HOn.out] at o9
                      unfold Ow at o9
                      obtain ⟨a9, c9, rfl⟩ := row_len o9
                      obtain ⟨g9, rfl, hc9, hx9, k9⟩ := own_get o9 (j := 0) (by simp)
                      replace k9 : w9.cell? ⟨g9, 0, none⟩ = some (.int .u8 ((mkf p).toNat : Int)) := k9
                      have hU9 := (HQj.out.drewN _).trans u9
                      have km := hU9.cell HKm.out
                      have HU9 := Hid.of hU9
                      have hc9z : (1 : Int) ≤ (c9 : Int) := by simp only [List.length_singleton] at hc9; omega
                      clear o9 u9 hU9 kn kx HRd hx9 hc9
                      dsimp only [List.length_singleton]
                      go_wp2
                      go_quiet (fail)
                      go_wp2
                      go_roundw
                      all_goals first
                        | exact ⟨j + 1, by go_num, by omega, Hid.of (HU9.out.drewN _)⟩
                        | (simp [intOf]; omega)
                    · have s1 : (p.1 == x) = false := by rw [beq_eq_false_iff_ne]; exact he
                      have s2 := (bs_eq p.1 x).trans s1
                      go_wp2
                      go_quiet (fail)
                      go_wp2
                      go_roundw
                      all_goals first
                        | exact ⟨j + 1, by go_num, by omega, Hid.of (HQj.out.drewN _)⟩
                        | (simp [intOf]; omega)
                  · have hjz : ¬ (j : Int) < (n : Int) := by omega
                    go_wp2
                    go_roundw
                    all_goals first
                      | exact ⟨(k + 1) + 1, few + 1, by go_num, by omega, by go_num, by omega, Hid.of ⟨HQj.out, HFe.out⟩⟩
                      | (simp [intOf]; omega)
              · have HFe := Hid.of (show few = ((Ls.take ((k + 1) + 1)).filter fun l => pfx px.data.toList l).length by rw [few_take hill, hx, if_neg (by rw [hpx]; decide), Nat.add_zero, ← HQ.out.2])
                clear hpx
                rcases hw with ⟨hw1, hw2⟩ | hw1
                · as_aux_lemma =>
                  go_wp2
                  go_quiet (fail)
                  go_wp2
                  go_loopw [26] (fun v26 wq => ∃ j : Nat, v26 = .int .i64 (j : Int) ∧ j ≤ n ∧ Hid (Up w8 wq)) (fun v26 _ => n - (intOf v26).toNat)
                  case atStart => exact ⟨0, rfl, by omega, Hid.of (HQ.out.1.drewN _)⟩
                  case round =>
                    obtain ⟨j, rfl, hj, hQj⟩ := hrel
                    have HQj := Hid.of hQj.out
                    clear hQj k1 k0
                    by_cases hjl : j < n
                    · have hjlz : (j : Int) < (n : Int) := by omega
                      have hns := HJ7.out.rw_.ns
                      have hms := HJ7.out.rw_.ms
                      have hjs : j < s.nf.length := by have := HN.out; omega
                      unfold OwS at hns
                      unfold Ow at hms
                      rw [List.length_map, HN.out] at hns hms
                      obtain ⟨gn, rfl, hcn, hx1, kn⟩ := own_get hns hjl
                      obtain ⟨gm, rfl, hcm, hx2, km⟩ := own_get hms hjl
                      have hcnz : (n : Int) ≤ (cn : Int) := by omega
                      have hcmz : (n : Int) ≤ (cm : Int) := by omega
                      have HPm := Hid.of (List.getElem_mem hjs)
                      obtain ⟨p, hp⟩ : ∃ p, s.nf[j] = p := ⟨_, rfl⟩
                      have e1 : (cst (s.nf.map (·.1)))[j] = .string ⟨p.1.toArray⟩ := by simp [cst, hp]
                      have e2 : (cb (s.nf.map mkf))[j] = .int .u8 ((mkf p).toNat : Int) := by simp [cb, hp]
                      rw [e1] at kn
                      rw [e2] at km
                      rw [hp] at HPm
                      have HKm := Hid.of km
                      have kn := HQj.out.cell kn
                      have kx := HQj.out.cell HK1.out
                      clear e1 e2 hx1 hx2 hns hms hp hcn hcm km
                      by_cases he : p.1 = x
                      · rw [he] at kn
                        have HRd := fun w9 (u9 : Up w8 w9) => Hid.of (Read_yes ⟨x.toArray⟩ p.2 w9 (HJ7.out.ok.up u9) (by have := HPm.out; rw [show ((⟨x.toArray⟩ : ByteArray).data.toList, p.2) = p from by rw [← he]]; exact this) HJ7.out.st.1)
                        have HOn := Hid.of (HJ7.out.one p HPm.out).1
                        clear he
                        go_wp2
                        go_quiet (fail)
                        go_wp2_with fail
                        refine (HRd _ (HQj.out.drewN _)).out.mono ?_
                        rintro e w9 ⟨v9, rfl, o9, u9⟩
                        rw [HOn.out] at o9
                        unfold Ow at o9
                        obtain ⟨a9, c9, rfl⟩ := row_len o9
                        obtain ⟨g9, rfl, hc9, hx9, k9⟩ := own_get o9 (j := 0) (by simp)
                        replace k9 : w9.cell? ⟨g9, 0, none⟩ = some (.int .u8 ((mkf p).toNat : Int)) := k9
                        have hU9 := (HQj.out.drewN _).trans u9
                        have km := hU9.cell HKm.out
                        have HU9 := Hid.of hU9
                        have hc9z : (1 : Int) ≤ (c9 : Int) := by simp only [List.length_singleton] at hc9; omega
                        clear o9 u9 hU9 kn kx HRd hx9 hc9
                        dsimp only [List.length_singleton]
                        go_wp2
                        go_quiet (fail)
                        go_wp2
                        go_roundw
                        all_goals first
                          | exact ⟨j + 1, by go_num, by omega, Hid.of (HU9.out.drewN _)⟩
                          | (simp [intOf]; omega)
                      · have s1 : (p.1 == x) = false := by rw [beq_eq_false_iff_ne]; exact he
                        have s2 := (bs_eq p.1 x).trans s1
                        go_wp2
                        go_quiet (fail)
                        go_wp2
                        go_roundw
                        all_goals first
                          | exact ⟨j + 1, by go_num, by omega, Hid.of (HQj.out.drewN _)⟩
                          | (simp [intOf]; omega)
                    · have hjz : ¬ (j : Int) < (n : Int) := by omega
                      go_wp2
                      go_roundw
                      all_goals first
                        | exact ⟨(k + 1) + 1, few, by go_num, by omega, by go_num, by omega, Hid.of ⟨HQj.out, HFe.out⟩⟩
                        | (simp [intOf]; omega)
                · as_aux_lemma =>
                  go_wp2
                  go_quiet (fail)
                  go_wp2
                  go_loopw [26] (fun v26 wq => ∃ j : Nat, v26 = .int .i64 (j : Int) ∧ j ≤ n ∧ Hid (Up w8 wq)) (fun v26 _ => n - (intOf v26).toNat)
                  case atStart => exact ⟨0, rfl, by omega, Hid.of (HQ.out.1.drewN _)⟩
                  case round =>
                    obtain ⟨j, rfl, hj, hQj⟩ := hrel
                    have HQj := Hid.of hQj.out
                    clear hQj k1 k0
                    by_cases hjl : j < n
                    · have hjlz : (j : Int) < (n : Int) := by omega
                      have hns := HJ7.out.rw_.ns
                      have hms := HJ7.out.rw_.ms
                      have hjs : j < s.nf.length := by have := HN.out; omega
                      unfold OwS at hns
                      unfold Ow at hms
                      rw [List.length_map, HN.out] at hns hms
                      obtain ⟨gn, rfl, hcn, hx1, kn⟩ := own_get hns hjl
                      obtain ⟨gm, rfl, hcm, hx2, km⟩ := own_get hms hjl
                      have hcnz : (n : Int) ≤ (cn : Int) := by omega
                      have hcmz : (n : Int) ≤ (cm : Int) := by omega
                      have HPm := Hid.of (List.getElem_mem hjs)
                      obtain ⟨p, hp⟩ : ∃ p, s.nf[j] = p := ⟨_, rfl⟩
                      have e1 : (cst (s.nf.map (·.1)))[j] = .string ⟨p.1.toArray⟩ := by simp [cst, hp]
                      have e2 : (cb (s.nf.map mkf))[j] = .int .u8 ((mkf p).toNat : Int) := by simp [cb, hp]
                      rw [e1] at kn
                      rw [e2] at km
                      rw [hp] at HPm
                      have HKm := Hid.of km
                      have kn := HQj.out.cell kn
                      have kx := HQj.out.cell HK1.out
                      clear e1 e2 hx1 hx2 hns hms hp hcn hcm km
                      by_cases he : p.1 = x
                      · rw [he] at kn
                        have HRd := fun w9 (u9 : Up w8 w9) => Hid.of (Read_yes ⟨x.toArray⟩ p.2 w9 (HJ7.out.ok.up u9) (by have := HPm.out; rw [show ((⟨x.toArray⟩ : ByteArray).data.toList, p.2) = p from by rw [← he]]; exact this) HJ7.out.st.1)
                        have HOn := Hid.of (HJ7.out.one p HPm.out).1
                        clear he
                        go_wp2
                        go_quiet (fail)
                        go_wp2_with fail
                        refine (HRd _ (HQj.out.drewN _)).out.mono ?_
                        rintro e w9 ⟨v9, rfl, o9, u9⟩
                        rw [HOn.out] at o9
                        unfold Ow at o9
                        obtain ⟨a9, c9, rfl⟩ := row_len o9
                        obtain ⟨g9, rfl, hc9, hx9, k9⟩ := own_get o9 (j := 0) (by simp)
                        replace k9 : w9.cell? ⟨g9, 0, none⟩ = some (.int .u8 ((mkf p).toNat : Int)) := k9
                        have hU9 := (HQj.out.drewN _).trans u9
                        have km := hU9.cell HKm.out
                        have HU9 := Hid.of hU9
                        have hc9z : (1 : Int) ≤ (c9 : Int) := by simp only [List.length_singleton] at hc9; omega
                        clear o9 u9 hU9 kn kx HRd hx9 hc9
                        dsimp only [List.length_singleton]
                        go_wp2
                        go_quiet (fail)
                        go_wp2
                        go_roundw
                        all_goals first
                          | exact ⟨j + 1, by go_num, by omega, Hid.of (HU9.out.drewN _)⟩
                          | (simp [intOf]; omega)
                      · have s1 : (p.1 == x) = false := by rw [beq_eq_false_iff_ne]; exact he
                        have s2 := (bs_eq p.1 x).trans s1
                        go_wp2
                        go_quiet (fail)
                        go_wp2
                        go_roundw
                        all_goals first
                          | exact ⟨j + 1, by go_num, by omega, Hid.of (HQj.out.drewN _)⟩
                          | (simp [intOf]; omega)
                    · have hjz : ¬ (j : Int) < (n : Int) := by omega
                      go_wp2
                      go_roundw
                      all_goals first
                        | exact ⟨(k + 1) + 1, few, by go_num, by omega, by go_num, by omega, Hid.of ⟨HQj.out, HFe.out⟩⟩
                        | (simp [intOf]; omega)
          · as_aux_lemma =>
            have hilz : ¬ (i2 : Int) < (n : Int) := by omega
            rw [show Ls.take i2 = Ls from List.take_of_length_le (by have := HLl.out; omega), ← HLx.out] at HQ
            have HLi := Hid.of (List_gen px wr (HJ7.out.ok.up HQ.out.1) HJ7.out.st.1)
            go_wp2_with fail
            refine HLi.out.mono ?_
            rintro e w9 ⟨v9, rfl, q9, u9⟩
            have HU9 := Hid.of (HQ.out.1.trans u9)
            have HFew := Hid.of HQ.out.2
            have HPx := Hid.of (fun l (hl : l ∈ lsN s.nf px.data.toList) => lsN_pfx hl)
            generalize lsN s.nf px.data.toList = Lp at *
            obtain ⟨ap, cp, rfl, hcp, hcells⟩ := q9
            have HCp := Hid.of hcells
            obtain ⟨np, hnp⟩ : ∃ np, Lp.length = np := ⟨_, rfl⟩
            have HNp := Hid.of hnp
            rw [hnp] at hcp ⊢
            have hcpz : (np : Int) ≤ (cp : Int) := by omega
            have hfew : few = np := by rw [HFew.out]; exact hnp
            subst hfew
            clear hcells hnp u9 HLi HQ HFew
            dsimp only
            go_wp2
            go_loopw [30] (fun v30 wq => ∃ j : Nat, v30 = .int .i64 (j : Int) ∧ j ≤ few ∧ Hid (Up w9 wq)) (fun v30 _ => few - (intOf v30).toNat)
            case atStart => exact ⟨0, rfl, by omega, Hid.of (Up.refl _)⟩
            case round =>
              obtain ⟨j, rfl, hj, hQj⟩ := hrel
              have HQj := Hid.of hQj.out
              clear hQj
              by_cases hjl : j < few
              · have hjlz : (j : Int) < (few : Int) := by omega
                have hjp : j < Lp.length := by rw [HNp.out]; exact hjl
                rcases HCp.out with e0 | ⟨bp, op, rfl, _, hcell⟩
                · exfalso; rw [e0] at hjp; simp at hjp
                have kx := HQj.out.cell (hcell j hjp)
                have hpx := HPx.out Lp[j] (List.getElem_mem hjp)
                obtain ⟨x, hx⟩ : ∃ x, Lp[j] = x := ⟨_, rfl⟩
                rw [hx] at kx hpx
                rcases pfx_ways px x with ⟨_, hw1, hw2⟩ | ⟨hpn, _⟩
                · have hw3 : ¬ x.length < px.size := by omega
                  clear hpx hx hcell
                  go_wp2
                  go_roundw
                  all_goals first
                    | exact ⟨j + 1, by go_num, by omega, HQj⟩
                    | (simp [intOf]; omega)
                · rw [hpx] at hpn; cases hpn
              · have hjz : ¬ (j : Int) < (few : Int) := by omega
                obtain rfl : j = few := by omega
                go_wp2
                go_ret
                exact ⟨rfl, HJ7.out.up.trans (HU9.out.trans HQj.out)⟩
end Go.Proofs.YtnmknidhpjjbgaaDoor
