import Derived.Test.YtehnnlhoajdcaaaGreatDoorNc
import Derived.Test.YtehnnlhoajdcaaaGreatDoorNb
import Derived.Test.YtehnnlhoajdcaaaGreatDoorNa
namespace Go.Proofs.YtehnnlhoajdcaaaGreatDoor
open Go.RowKit Go.Shelf TextNum
def RPqR (w w' : World) (e : Ending) : Er ((Rq × List UInt8) × Nat) → Prop
 | .error k => e = .returned (.tuple #[.agg z6.toArray, .int .i64 0, .int .i64 (numK k)])
 | .ok ((x, b), n) => ∃ a c v, e = .returned (.tuple #[rqV x a c v, .int .i64 (n : Int), .int .i64 0]) ∧ Hd (RfO w' w.heap.size a x.fs c ∧ Sb w' v b)
theorem vrs_neg {d : List UInt8} (h : vok d = false) : vrs d = (-1, -1) := by unfold vrs; rw [h]; rfl
theorem vrs_pos {d : List UInt8} (h : vok d = true) : 0 ≤ (vrs d).1 ∧ (vrs d).1 ≤ 9 ∧ 0 ≤ (vrs d).2 ∧ (vrs d).2 ≤ 9 := by
 unfold vrs
 rw [if_pos h]
 obtain ⟨x, y, hx, hy, rfl⟩ := vok_form h
 have h1 := isD_nat hx
 have h2 := isD_nat hy
 rw [show ([72, 84, 84, 80, 47, x, 46, y] : List UInt8).getD 5 0 = x from rfl, show ([72, 84, 84, 80, 47, x, 46, y] : List UInt8).getD 7 0 = y from rfl]
 dsimp only
 omega
theorem RfO.grow {w w' : World} {N b : Nat} {a : Option Addr} {fs : List FD} {c : Nat} (h : RfO w N a fs c) (hg : w.grownBy w' (some b)) (hb : b < N) : RfO w' N a fs c := by
 refine ⟨h.1, ?_⟩
 rcases h.2 with h0 | ⟨g, cap, cur, e1, e2, e3, e4⟩
 · exact .inl h0
 exact .inr ⟨g, cap, cur, e1, e2, by rw [hg.block g (by
  rcases Nat.lt_or_ge g w.heap.size with h' | h'
  · exact h'
  simp [Array.getElem?_eq_none h'] at e3) (fun e => by have := Option.some.inj e; omega)]; exact e3, e4⟩
set_option maxRecDepth 100000 in
set_option maxHeartbeats 16000000 in
theorem RParseRequest_walk {a : Option Addr} {n c : Nat} {ds : List UInt8} (hn40 : n ≤ 1099511627000) (w : World) (hS : Sb w (.slice a n c) ds) (hMt : w.rangeAt 0 0 mtC) : Calls Tryz.prog 30 #[.slice a n c] w fun e w' => RPqR w w' e (rqP ds) ∧ Up w w' := by
 rw [rqP_rqR]
 obtain ⟨hn, hnc, hcm⟩ := hS.len
 have HA1 := Ho (at_new w 56 z6)
 have HU1 := Ho ((Up.refl w).alloc (.cells z6.toArray 56))
 have HSz := Ho (alloc_size w (.cells z6.toArray 56))
 have hcv : (convert 22 9 (.slice a n c)).run Tryz.prog (w.alloc (.cells #[.string ⟨#[]⟩, .string ⟨#[]⟩, .int .i64 0, .slice none 0 0, .slice none 0 0, .bool false] 56)) = .ok (.string ⟨ds.toArray⟩) (w.alloc (.cells #[.string ⟨#[]⟩, .string ⟨#[]⟩, .int .i64 0, .slice none 0 0, .slice none 0 0, .bool false] 56)) := conv_sb2 (hS.up HU1.o)
 have HMt := Ho hMt
 clear hS hnc hcm hMt
 obtain ⟨s, hs⟩ := ny (⟨ds.toArray⟩ : ByteArray)
 have HL := Ho (show s.data.toList = ds by rw [← hs])
 have HZ := Ho (show s.size = ds.length by rw [Go.Lib.size_eq, HL.o])
 have hsz : s.size ≤ 1099511627000 := by rw [HZ.o]; omega
 rw [hs] at hcv
 clear hs hn
 obtain ⟨rv, hrv⟩ := ny (rqR ds)
 have HR := Ho hrv
 unfold rqR at HR
 rw [hrv]
 clear hrv
 have HCh := Ho (RcutHead_walk s 9 (by decide) 147 rfl hsz (w.alloc (.cells z6.toArray 56)))
 rw [HL.o] at HCh
 go_enter Tryz.func30, Tryz.ntmps30
 go_wp2_with fail
 change Calls _ _ _ (w.alloc (.cells z6.toArray 56)) _
 clear hcv
 generalize w.alloc (.cells z6.toArray 56) = w1 at *
 refine HCh.o.mono ?_
 rintro e w2 ⟨hC2, h9⟩
 have HU2 := Ho (HU1.o.trans h9)
 have HA2 := Ho (HA1.o.up h9)
 have HS2 := Ho h9.size
 clear h9 HCh
 cases hh : rHd 9 ds with
 | error k =>
  rw [hh] at hC2 HR
  dsimp only at HR
  obtain ⟨a2, n2, c2, rfl⟩ := hC2
  have hne := numK_ne (rHd_er (by decide) hh)
  have HE := Ho (show rv = .error k from HR.o.symm)
  obtain ⟨q, hq⟩ := ny (numK k)
  have HQ := Ho hq
  rw [hq] at hne
  dsimp only
  rw [hq]
  clear hq hh
  go_wp2_with (with_reducible refine sS 56 ?_)
  show wpList _ _ _ _ _ _
  refine wpList_store_at rfl 56 _ _ rfl (w.heap.size) HA2.o z6 rfl rfl rfl (by kernel_rfl) (by kernel_rfl) ?_
  intro w8 hA8 hg8
  have HA8 := Ho hA8
  have HU8 := Ho (HU2.o.bz hg8)
  clear hA8 hg8
  simp only [Act.put]
  repeat go_step
  refine bodyPost_ret (result_cell_tmp2 Tryz.results30 _ _ (w.heap.size) z6 _ _ rfl rfl rfl HA8.o.range Tryz.underlying56 rfl (by kernel_rfl)) rfl ?_
  rw [HE.o]
  refine ⟨?_, HU8.o⟩
  show Ending.returned _ = Ending.returned _
  rw [HQ.o]
  rfl
 | ok q0 =>
  obtain ⟨st, ls, k⟩ := q0
  obtain ⟨hst, hls, hkl⟩ := rHd_small hh
  rw [hh] at hC2 HR
  dsimp only at HR
  obtain ⟨al, cl, rfl, hLS⟩ := hC2
  have HLS2 := Ho hLS.o
  have hcapl := hLS.o.stl.cap
  rw [bts_len] at hcapl
  clear hh hLS
  dsimp only
  obtain ⟨nl, hnl⟩ := ny ls.length
  have HNl := Ho hnl
  have hnlz : nl ≤ 16384 := by rw [← hnl]; have := lsz_len ls; omega
  rw [hnl] at hcapl ⊢
  clear hnl
  obtain ⟨X, hX⟩ := ny (⟨st.toArray⟩ : ByteArray)
  have HXl := Ho (show X.data.toList = st by rw [← hX])
  have hXz : X.size ≤ 8000 := by rw [Go.Lib.size_eq, HXl.o]; exact hst
  have HvX := Ho (show vs st = .string X by rw [← hX])
  rw [HvX.o]
  clear hX hst
  have HPc := Ho (fun w => Rpieces_walk X 32 (by omega) w)
  rw [HXl.o] at HPc
  have HPs := Ho (fun x hx => Nat.le_trans (pcs_small 32 st x hx) (by rw [← HXl.o, ← Go.Lib.size_eq]; exact hXz))
  have HOth := Ho (rql_other (l := st))
  have HThr := Ho (fun a b d => rql_three (l := st) (a := a) (b := b) (d := d))
  generalize rql st = rq at *
  generalize pcs 32 st = P at *
  obtain ⟨np, hnp⟩ := ny P.length
  rw [hnp] at HPc HOth
  go_wp2_with fail
  refine (HPc.o w2).mono ?_
  rintro e w3 ⟨⟨ap, cp, rfl, hOp⟩, h9⟩
  have HU3 := Ho (HU2.o.trans h9)
  have HA3 := Ho (HA2.o.up h9)
  have HLS3 := Ho (ow_up HLS2.o h9)
  have HPO := Ho hOp.o
  clear hOp HPc
  clear h9
  dsimp only
  by_cases h3 : np = 3
  · obtain ⟨ba, bb, bd, rfl⟩ : ∃ x y z, P = [x, y, z] := by
     match P, hnp.trans h3 with
     | [x, y, z], _ => exact ⟨x, y, z, rfl⟩
    have h3z : ((np : Int) != 3) = false := by rw [h3]; rfl
    have hRq := HThr.o ba bb bd rfl
    have hcapp := HPO.o.stl.cap
    obtain ⟨b0, off, rfl, k0⟩ := HPO.o.stl.cells 0 (by simp [bts])
    have k1 : w3.cell? ⟨b0, off + 1, none⟩ = some (.string ⟨bb.toArray⟩) := by
     obtain ⟨b1, off1, e1, k1⟩ := HPO.o.stl.cells 1 (by simp [bts])
     injection e1 with e1
     injection e1 with e1 e2 _
     rw [e1, e2]
     exact k1
    have k2 : w3.cell? ⟨b0, off + 2, none⟩ = some (.string ⟨bd.toArray⟩) := by
     obtain ⟨b1, off1, e1, k2⟩ := HPO.o.stl.cells 2 (by simp [bts])
     injection e1 with e1
     injection e1 with e1 e2 _
     rw [e1, e2]
     exact k2
    have k0' : w3.cell? ⟨b0, off, none⟩ = some (.string ⟨ba.toArray⟩) := k0
    have hb0 : b0 ≠ w.heap.size := by
     have h1 := StO.ge HPO.o
     have h2 := HS2.o
     rw [HSz.o] at h2
     omega
    obtain ⟨A, hA⟩ := ny (⟨ba.toArray⟩ : ByteArray)
    have HAl := Ho (show A.data.toList = ba by rw [← hA])
    have hAz : A.size ≤ 8000 := by rw [Go.Lib.size_eq, HAl.o]; exact HPs.o ba (by simp)
    obtain ⟨B, hB⟩ := ny (⟨bb.toArray⟩ : ByteArray)
    have HBl := Ho (show B.data.toList = bb by rw [← hB])
    have hBz : B.size ≤ 8000 := by rw [Go.Lib.size_eq, HBl.o]; exact HPs.o bb (by simp)
    obtain ⟨D, hD⟩ := ny (⟨bd.toArray⟩ : ByteArray)
    have HDl := Ho (show D.data.toList = bd by rw [← hD])
    have hDz : D.size ≤ 8000 := by rw [Go.Lib.size_eq, HDl.o]; exact HPs.o bd (by simp)
    rw [hA] at k0' hRq
    rw [hB] at k1
    rw [hD] at k2
    have HvA := Ho (show vs ba = .string A by rw [← hA])
    have HvB := Ho (show vs bb = .string B by rw [← hB])
    have HKa3 := Ho k0'
    have HKb3 := Ho k1
    have HKc3 := Ho k2
    have HRq := Ho hRq
    have hcapp3 : 3 ≤ cp := hcapp
    clear k0 k0' k1 k2 hRq HPO hA hB hD HOth HThr HPs hcapp
    have hnp0 : 0 < np := by omega
    have hnp1 : 1 < np := by omega
    have hnp2 : 2 < np := by omega
    have q0z : (0 : Int) < (np : Int) := by omega
    have q1z : (1 : Int) < (np : Int) := by omega
    have q2z : (2 : Int) < (np : Int) := by omega
    have HTk := Ho (show ∀ w, Calls Tryz.prog 46 #[.string A] w fun e w' => e = .returned (.bool (tok ba)) ∧ Up w w' from fun w => by
     have h := Rtoken_walk A (by omega) w
     rw [HAl.o] at h
     exact h)
    have HVs := Ho (show ∀ w, Calls Tryz.prog 47 #[.string B] w fun e w' => e = .returned (.bool (tgt bb)) ∧ Up w w' from fun w => by
     have h := Rvisible_walk B (by omega) w
     rw [HBl.o] at h
     exact h)
    have HVr := Ho (show ∀ w, Calls Tryz.prog 75 #[.string D] w fun e w' => e = .returned (.tuple #[.int .i64 (vrs bd).1, .int .i64 (vrs bd).2]) ∧ Up w w' from fun w => by
     have h := Rversion_walk D w
     rw [HDl.o] at h
     exact h)
    have HKn := Ho (show ∀ w2, Up w w2 → Calls Tryz.prog 48 #[.string A] w2 fun e w' => e = .returned (.bool (mtk A)) ∧ Up w2 w' from fun w2 h => (Rknown_walk A w2 (range_up HMt.o h)).mono (by
     rintro e w' ⟨rfl, rfl⟩
     exact ⟨rfl, Up.refl _⟩))
    have HVok := Ho (fun h => vrs_neg (d := bd) h)
    have HVp := Ho (fun h => vrs_pos (d := bd) h)
    generalize vrs bd = vv at *
    generalize vok bd = bvk at *
    generalize tok ba = btk at *
    generalize tgt bb = btg at *
    generalize mtk A = bmt at *
    have kc0 := HKa3.o
    have kc1 := HKb3.o
    have kc2 := HKc3.o
    go_wp2_with fail
    refine (HTk.o w3).mono ?_
    rintro e w4 ⟨rfl, h9⟩
    have HU4 := Ho (HU3.o.trans h9)
    have HA4 := Ho (HA3.o.up h9)
    have HLS4 := Ho (ow_up HLS3.o h9)
    have HKa4 := Ho (h9.cell HKa3.o)
    have HKb4 := Ho (h9.cell HKb3.o)
    have HKc4 := Ho (h9.cell HKc3.o)
    clear h9
    dsimp only
    clear kc0 kc1 kc2
    have kc0 := HKa4.o
    have kc1 := HKb4.o
    have kc2 := HKc4.o
    cases btk with
    | false =>
     have HE := Ho (show rv = .error 3 by rw [← HR.o, HRq.o]; rfl)
     go_wp2_with (with_reducible refine sS 56 ?_)
     show wpList _ _ _ _ _ _
     refine wpList_store_at rfl 56 _ _ rfl (w.heap.size) HA4.o z6 rfl rfl rfl (by kernel_rfl) (by kernel_rfl) ?_
     intro w8 hA8 hg8
     have HA8 := Ho hA8
     have HU8 := Ho (HU4.o.bz hg8)
     clear hA8 hg8
     simp only [Act.put]
     repeat go_step
     refine bodyPost_ret (result_cell_tmp2 Tryz.results30 _ _ (w.heap.size) z6 _ _ rfl rfl rfl HA8.o.range Tryz.underlying56 rfl (by kernel_rfl)) rfl ?_
     rw [HE.o]
     exact ⟨rfl, HU8.o⟩
    | true =>
     go_wp2_with fail
     refine (HVs.o w4).mono ?_
     rintro e w5 ⟨rfl, h9⟩
     have HU5 := Ho (HU4.o.trans h9)
     have HA5 := Ho (HA4.o.up h9)
     have HLS5 := Ho (ow_up HLS4.o h9)
     have HKa5 := Ho (h9.cell HKa4.o)
     have HKb5 := Ho (h9.cell HKb4.o)
     have HKc5 := Ho (h9.cell HKc4.o)
     clear h9
     dsimp only
     clear kc0 kc1 kc2
     have kc0 := HKa5.o
     have kc1 := HKb5.o
     have kc2 := HKc5.o
     cases btg with
     | false =>
      have HE := Ho (show rv = .error 3 by rw [← HR.o, HRq.o]; rfl)
      go_wp2_with (with_reducible refine sS 56 ?_)
      show wpList _ _ _ _ _ _
      refine wpList_store_at rfl 56 _ _ rfl (w.heap.size) HA5.o z6 rfl rfl rfl (by kernel_rfl) (by kernel_rfl) ?_
      intro w8 hA8 hg8
      have HA8 := Ho hA8
      have HU8 := Ho (HU5.o.bz hg8)
      clear hA8 hg8
      simp only [Act.put]
      repeat go_step
      refine bodyPost_ret (result_cell_tmp2 Tryz.results30 _ _ (w.heap.size) z6 _ _ rfl rfl rfl HA8.o.range Tryz.underlying56 rfl (by kernel_rfl)) rfl ?_
      rw [HE.o]
      exact ⟨rfl, HU8.o⟩
     | true =>
      go_wp2_with fail
      refine (HVr.o w5).mono ?_
      rintro e w6 ⟨rfl, h9⟩
      have HU6 := Ho (HU5.o.trans h9)
      have HA6 := Ho (HA5.o.up h9)
      have HLS6 := Ho (ow_up HLS5.o h9)
      have HKa6 := Ho (h9.cell HKa5.o)
      have HKb6 := Ho (h9.cell HKb5.o)
      have HKc6 := Ho (h9.cell HKc5.o)
      clear h9
      dsimp only
      clear kc0 kc1 kc2
      have kc0 := HKa6.o
      have kc1 := HKb6.o
      have kc2 := HKc6.o
      cases bvk with
      | false =>
       have HE := Ho (show rv = .error 3 by rw [← HR.o, HRq.o]; rfl)
       have hvv := HVok.o rfl
       rw [hvv] at HRq ⊢
       clear HVok HVp hvv
       dsimp only
       go_wp2_with (with_reducible refine sS 56 ?_)
       show wpList _ _ _ _ _ _
       refine wpList_store_at rfl 56 _ _ rfl (w.heap.size) HA6.o z6 rfl rfl rfl (by kernel_rfl) (by kernel_rfl) ?_
       intro w8 hA8 hg8
       have HA8 := Ho hA8
       have HU8 := Ho (HU6.o.bz hg8)
       clear hA8 hg8
       simp only [Act.put]
       repeat go_step
       refine bodyPost_ret (result_cell_tmp2 Tryz.results30 _ _ (w.heap.size) z6 _ _ rfl rfl rfl HA8.o.range Tryz.underlying56 rfl (by kernel_rfl)) rfl ?_
       rw [HE.o]
       exact ⟨rfl, HU8.o⟩
      | true =>
       obtain ⟨mj, mi⟩ := vv
       dsimp only at HRq HVp ⊢
       obtain ⟨m0, m9, i0, i9⟩ := HVp.o rfl
       have hm0 : ¬ mj < 0 := by omega
       clear HVok HVp
       go_wp2_with fail
       refine (HKn.o w6 HU6.o).mono ?_
       rintro e w7 ⟨rfl, h9⟩
       have HU7 := Ho (HU6.o.trans h9)
       have HA7 := Ho (HA6.o.up h9)
       have HLS7 := Ho (ow_up HLS6.o h9)
       have HKa7 := Ho (h9.cell HKa6.o)
       have HKb7 := Ho (h9.cell HKb6.o)
       have HKc7 := Ho (h9.cell HKc6.o)
       clear h9
       dsimp only
       clear kc0 kc1 kc2
       have kc0 := HKa7.o
       have kc1 := HKb7.o
       have kc2 := HKc7.o
       cases bmt with
       | false =>
        have HE := Ho (show rv = .error 10 by rw [← HR.o, HRq.o]; rfl)
        go_wp2_with (with_reducible refine sS 56 ?_)
        show wpList _ _ _ _ _ _
        refine wpList_store_at rfl 56 _ _ rfl (w.heap.size) HA7.o z6 rfl rfl rfl (by kernel_rfl) (by kernel_rfl) ?_
        intro w8 hA8 hg8
        have HA8 := Ho hA8
        have HU8 := Ho (HU7.o.bz hg8)
        clear hA8 hg8
        simp only [Act.put]
        repeat go_step
        refine bodyPost_ret (result_cell_tmp2 Tryz.results30 _ _ (w.heap.size) z6 _ _ rfl rfl rfl HA8.o.range Tryz.underlying56 rfl (by kernel_rfl)) rfl ?_
        rw [HE.o]
        exact ⟨rfl, HU8.o⟩
       | true =>
        have HRq2 := Ho (show rq = if mj = 1 ∧ mi ≤ 1 then .ok (ba, bb, mi) else .error 4 from HRq.o)
        clear HRq
        by_cases hmj : mj = 1
        case' _ =>
         subst hmj
         by_cases hmi : mi ≤ 1
         · have hmiz : ¬ (1 : Int) < mi := by omega
           rw [if_pos ⟨rfl, hmi⟩] at HRq2
           rw [HRq2.o] at HR
           dsimp only at HR
           clear HRq2
           have HFs := Ho (show ∀ w2, StO w2 w1.heap.size al (bts ls) cl → Calls Tryz.prog 76 #[.slice al nl cl] w2 fun e w' => FsR w2 w' e (rfd ls) ∧ Up w2 w' from fun w2 h => by
            have h1 := Rfields_walk al ls cl w2 h.stl (by rw [HNl.o]; omega) (fun x hx => by have := lsz_mem hx; omega)
            rw [HNl.o] at h1
            exact h1)
           go_wp2_with fail
           refine (HFs.o w7 HLS7.o).mono ?_
           rintro e w9 ⟨hF9, h9⟩
           have HU9 := Ho (HU7.o.trans h9)
           have HA9 := Ho (HA7.o.up h9)
           have HKa9 := Ho (h9.cell HKa7.o)
           have HKb9 := Ho (h9.cell HKb7.o)
           have HKc9 := Ho (h9.cell HKc7.o)
           have HS9 := Ho (HU7.o.size)
           clear HFs
           clear h9
           clear kc0 kc1 kc2
           cases hfd : rfd ls with
           | error q =>
            rw [hfd] at hF9 HR
            obtain ⟨a2, n2, c2, rfl⟩ := hF9
            have HE := Ho (show rv = .error q from HR.o.symm)
            rcases rfd_er hfd with rfl | rfl
            all_goals
             clear hfd
             dsimp only
             go_wp2_with (with_reducible refine sS 56 ?_)
             show wpList _ _ _ _ _ _
             refine wpList_store_at rfl 56 _ _ rfl (w.heap.size) HA9.o z6 rfl rfl rfl (by kernel_rfl) (by kernel_rfl) ?_
             intro w8 hA8 hg8
             have HA8 := Ho hA8
             have HU8 := Ho (HU9.o.bz hg8)
             clear hA8 hg8
             simp only [Act.put]
             repeat go_step
             refine bodyPost_ret (result_cell_tmp2 Tryz.results30 _ _ (w.heap.size) z6 _ _ rfl rfl rfl HA8.o.range Tryz.underlying56 rfl (by kernel_rfl)) rfl ?_
             rw [HE.o]
             exact ⟨rfl, HU8.o⟩
           | ok fs =>
            have hszs := rfd_small hls hfd
            rw [hfd] at hF9 HR
            dsimp only at HR
            obtain ⟨af, cf, rfl, hRF⟩ := hF9
            have HRF9 := Ho hRF.o
            have hcapf := hRF.o.fdl.cap
            clear hfd hRF
            dsimp only
            obtain ⟨nf, hnf⟩ := ny fs.length
            have HNf := Ho hnf
            rw [hnf] at hcapf ⊢
            clear hnf
            have HHo := Ho (show ∀ w2, RfO w2 w7.heap.size af fs cf → Calls Tryz.prog 50 #[.slice af nf cf, .int .i64 mi] w2 fun e w' => e = .returned (.int .i64 (ckN (ckh fs mi))) ∧ Up w2 w' from fun w2 h => by
             have h1 := Rhost_walk af fs cf mi w2 h.fdl (by omega)
             rw [HNf.o] at h1
             exact h1)
            have HLe := Ho (show ∀ w2, RfO w2 w7.heap.size af fs cf → Calls Tryz.prog 77 #[.slice af nf cf, .int .i64 mi] w2 fun e w' => e = .returned (lnR (rln fs mi)) ∧ Up w2 w' from fun w2 h => by
             have h1 := Rlength_walk af fs cf mi w2 h.fdl (by omega)
             rw [HNf.o] at h1
             exact h1)
            have HCl := Ho (show ∀ w2, FdL w2 af fs cf → Calls Tryz.prog 79 #[.slice af nf cf, .int .i64 mi] w2 fun e w' => e = .returned (.bool (cls (mi == 0) fs)) ∧ Up w2 w' from fun w2 h => by
             have h1 := Rcloses_walk af fs cf mi w2 h (by omega)
             rw [HNf.o] at h1
             exact h1)
            go_wp2_with fail
            refine (HHo.o w9 HRF9.o).mono ?_
            rintro e w10 ⟨rfl, h9⟩
            have HU10 := Ho (HU9.o.trans h9)
            have HA10 := Ho (HA9.o.up h9)
            have HKa10 := Ho (h9.cell HKa9.o)
            have HKb10 := Ho (h9.cell HKb9.o)
            have HKc10 := Ho (h9.cell HKc9.o)
            have HRF10 := Ho (ow_up HRF9.o h9)
            clear HHo
            clear h9
            dsimp only
            cases hck : ckh fs mi with
            | some q =>
             rw [hck] at HR
             have HE := Ho (show rv = .error q from HR.o.symm)
             obtain rfl := ckh_er hck
             clear hck
             rw [show ckN (some 6) = 144 from rfl]
             go_wp2_with (with_reducible refine sS 56 ?_)
             show wpList _ _ _ _ _ _
             refine wpList_store_at rfl 56 _ _ rfl (w.heap.size) HA10.o z6 rfl rfl rfl (by kernel_rfl) (by kernel_rfl) ?_
             intro w8 hA8 hg8
             have HA8 := Ho hA8
             have HU8 := Ho (HU10.o.bz hg8)
             clear hA8 hg8
             simp only [Act.put]
             repeat go_step
             refine bodyPost_ret (result_cell_tmp2 Tryz.results30 _ _ (w.heap.size) z6 _ _ rfl rfl rfl HA8.o.range Tryz.underlying56 rfl (by kernel_rfl)) rfl ?_
             rw [HE.o]
             exact ⟨rfl, HU8.o⟩
            | none =>
             rw [hck] at HR
             dsimp only at HR
             clear hck
             rw [show ckN none = 0 from rfl]
             go_wp2_with fail
             refine (HLe.o w10 HRF10.o).mono ?_
             rintro e w11 ⟨rfl, h9⟩
             have HU11 := Ho (HU10.o.trans h9)
             have HA11 := Ho (HA10.o.up h9)
             have HKa11 := Ho (h9.cell HKa10.o)
             have HKb11 := Ho (h9.cell HKb10.o)
             have HKc11 := Ho (h9.cell HKc10.o)
             have HRF11 := Ho (ow_up HRF10.o h9)
             clear HLe
             clear h9
             dsimp only
             cases hln : rln fs mi with
             | error q =>
              rw [hln] at HR
              have HE := Ho (show rv = .error q from HR.o.symm)
              rcases rln_er hln with rfl | rfl
              case' _ =>
               rw [show lnR (.error 5) = .tuple #[.int .i64 0, .int .i64 143] from rfl]
              rotate_left
              case' _ =>
               rw [show lnR (.error 7) = .tuple #[.int .i64 0, .int .i64 145] from rfl]
              all_goals
               clear hln
               go_wp2_with (with_reducible refine sS 56 ?_)
               show wpList _ _ _ _ _ _
               refine wpList_store_at rfl 56 _ _ rfl (w.heap.size) HA11.o z6 rfl rfl rfl (by kernel_rfl) (by kernel_rfl) ?_
               intro w8 hA8 hg8
               have HA8 := Ho hA8
               have HU8 := Ho (HU11.o.bz hg8)
               clear hA8 hg8
               simp only [Act.put]
               repeat go_step
               refine bodyPost_ret (result_cell_tmp2 Tryz.results30 _ _ (w.heap.size) z6 _ _ rfl rfl rfl HA8.o.range Tryz.underlying56 rfl (by kernel_rfl)) rfl ?_
               rw [HE.o]
               exact ⟨rfl, HU8.o⟩
             | ok nn =>
              rw [hln] at HR
              dsimp only at HR
              rw [show lnR (.ok nn) = .tuple #[.int .i64 nn, .int .i64 0] from rfl]
              obtain ⟨bb2, hbb2⟩ := ny (if nn = -1 then 0 else nn)
              rw [hbb2] at HR
              have hkz : (k : Int) ≤ (s.size : Int) := by rw [HZ.o]; omega
              obtain ⟨Y, hY⟩ := ny (s.extract k s.size : ByteArray)
              have HYl := Ho (show Y.data.toList = ds.drop k by rw [← hY, extr_drop, HL.o])
              have hYz : Y.size ≤ s.size := by rw [← hY, ByteArray.size_extract]; omega
              have HBo := Ho (show ∀ w, Calls Tryz.prog 78 #[.string Y, .int .i64 bb2] w fun e w' => BoR w w' e (bdy bb2 (ds.drop k)) ∧ Up w w' from fun w => by
               rcases rln_ok hln with rfl | rfl | ⟨h0, h1⟩
               · rw [if_neg (by decide)] at hbb2
                 subst hbb2
                 have h := Rbody_chunks Y (by omega) w
                 rw [HYl.o] at h
                 exact h
               · rw [if_pos rfl] at hbb2
                 subst hbb2
                 have h := Rbody_some Y 0 (by omega) w
                 rw [HYl.o] at h
                 exact h
               rw [if_neg (by omega)] at hbb2
               subst hbb2
               obtain ⟨j, rfl⟩ := Int.eq_ofNat_of_zero_le h0
               have h := Rbody_some Y j (by omega) w
               rw [HYl.o] at h
               exact h)
              have hbbr : (nn = -1 ∧ bb2 = 0) ∨ (¬ nn = -1 ∧ bb2 = nn) := by
               by_cases h : nn = -1
               · rw [if_pos h] at hbb2; exact .inl ⟨h, hbb2.symm⟩
               rw [if_neg h] at hbb2; exact .inr ⟨h, hbb2.symm⟩
              clear hln hbb2
              have HBl2 := Ho (fun b j h => bdy_len (n := bb2) (l := ds.drop k) (b := b) (j := j) h)
              have HBy := Ho (fun q h => bdy_er (n := bb2) (l := ds.drop k) (k := q) h)
              generalize bdy bb2 (ds.drop k) = by2 at *
              rcases hbbr with ⟨rfl, rfl⟩ | ⟨hnn, rfl⟩
              rotate_left
              case' _ =>
               have hnnz : (bb2 == -1) = false := by rw [beq_eq_false_iff_ne]; exact hnn
               clear hnn
              all_goals
               go_wp2_with fail
               refine (HBo.o w11).mono ?_
               rintro e w12 ⟨hB12, h9⟩
               have HU12 := Ho (HU11.o.trans h9)
               have HA12 := Ho (HA11.o.up h9)
               have HKa12 := Ho (h9.cell HKa11.o)
               have HKb12 := Ho (h9.cell HKb11.o)
               have HRF12 := Ho (ow_up HRF11.o h9)
               have HSz12 := Ho h9.size
               clear HBo
               clear h9
               cases hby : by2 with
               | error q =>
                rw [hby] at hB12 HR
                have HE := Ho (show rv = .error q from HR.o.symm)
                obtain rfl : e = _ := hB12
                have hne := numK_ne (HBy.o q hby)
                obtain ⟨nq, hnq⟩ := ny (numK q)
                have HQ := Ho hnq
                rw [hnq] at hne
                dsimp only
                rw [hnq]
                clear hnq hby
                go_wp2_with (with_reducible refine sS 56 ?_)
                show wpList _ _ _ _ _ _
                refine wpList_store_at rfl 56 _ _ rfl (w.heap.size) HA12.o z6 rfl rfl rfl (by kernel_rfl) (by kernel_rfl) ?_
                intro w8 hA8 hg8
                have HA8 := Ho hA8
                have HU8 := Ho (HU12.o.bz hg8)
                clear hA8 hg8
                simp only [Act.put]
                repeat go_step
                refine bodyPost_ret (result_cell_tmp2 Tryz.results30 _ _ (w.heap.size) z6 _ _ rfl rfl rfl HA8.o.range Tryz.underlying56 rfl (by kernel_rfl)) rfl ?_
                rw [HE.o]
                refine ⟨?_, HU8.o⟩
                show Ending.returned _ = Ending.returned _
                rw [HQ.o]
                rfl
               | ok p =>
                obtain ⟨bl, j⟩ := p
                rw [hby] at hB12 HR
                obtain ⟨vb2, rfl, hSb⟩ := hB12
                have HSb12 := Ho hSb.o.1
                have HFv := Ho hSb.o.2
                have HJz := Ho (HBl2.o bl j hby)
                rw [List.length_drop, ← HZ.o] at HJz
                have HE := Ho (show rv = .ok ((⟨ba, bb, mi, fs⟩, bl), k + j) from HR.o.symm)
                obtain ⟨bcl, hbcl⟩ := ny (cls (mi == 0) fs)
                have HBcl := Ho hbcl
                rw [hbcl] at HCl
                clear hbcl hby hSb
                dsimp only
                obtain ⟨aB, nB, cB, rfl⟩ := HSb12.o.shape
                have HVal := Ho (show (.tuple #[rqV ⟨ba, bb, mi, fs⟩ af cf (.slice aB nB cB), .int .i64 ((k + j : Nat) : Int), .int .i64 0] : Value) = .tuple #[.agg #[.string A, .string B, .int .i64 mi, .slice af nf cf, .slice aB nB cB, .bool bcl], .int .i64 ((k : Int) + (j : Int)), .int .i64 0] by rw [rqV_eq HNf.o HBcl.o, HvA.o, HvB.o, Int.natCast_add])
                have hwN : w.heap.size < w7.heap.size := lt_of_at HA7.o
                have hvb : (Value.slice aB nB cB).ownBlock = none ∨ (Value.slice aB nB cB).ownBlock ≠ some w.heap.size := .inr (fun e => by have h1 := HFv.o _ e; have h2 := lt_of_at HA11.o; omega)
                have hjz : j ≤ 1099511627000 := by have := HJz.o; omega
                have hwk : IntKind.i64.wrap ((k : Int) + (j : Int)) = (k : Int) + (j : Int) := wrapk _ (by omega) (by omega)
                go_wp2
                refine wp_region_held_drew (S := fun w5 => (∃ cs, cs.length = 6 ∧ At w5 w.heap.size 56 cs) ∧ w5.cell? ⟨b0, off, none⟩ = some (.string A) ∧ w5.cell? ⟨b0, off + 1, none⟩ = some (.string B) ∧ Up w w5) (by kernel_rfl) ⟨⟨z6, rfl, HA12.o.up (Up.refl _).drew⟩, (Up.refl _).drew.cell HKa12.o, (Up.refl _).drew.cell HKb12.o, HU12.o.drew⟩ (fun hS => ?_)
                refine tN 0 (some 112) (.move (.tmp 10)) 25 (.slice (some ⟨b0, off, none⟩) 3 cp) hS ?_
                simp only [Act.put, pB, pC, pD]
                refine tN 1 (some 113) (.indexAddr 25 (.tmp 112) (.const (.int .i64 0))) 0 (.pointer (some ⟨b0, off, none⟩)) hS ?_
                simp only [pA, pB, pC, pD]
                refine tK 2 (some 114) (.load 9 (.tmp 113)) 9 (.string A) hS ?_ ?_
                · intro _ _ w5 hSw
                  have h0 := hSw.2.1
                  clear hSw hS
                  go_simp
                simp only [pA, pB, pC, pD]
                refine tN 3 (some 115) (.move (.tmp 10)) 25 (.slice (some ⟨b0, off, none⟩) 3 cp) hS ?_
                simp only [pA, pB, pC, pD]
                refine tN 4 (some 116) (.indexAddr 25 (.tmp 115) (.const (.int .i64 1))) 0 (.pointer (some ⟨b0, off + 1, none⟩)) hS ?_
                simp only [pA, pB, pC, pD]
                refine tK 5 (some 117) (.load 9 (.tmp 116)) 9 (.string B) hS ?_ ?_
                · intro _ _ w5 hSw
                  have h0 := hSw.2.2.1
                  clear hSw hS
                  go_simp
                simp only [pA, pB, pC, pD]
                refine tN 6 (some 118) (.move (.tmp 12)) 3 (.int .i64 mi) hS ?_
                simp only [pA, pB, pC, pD]
                refine tN 7 (some 119) (.move (.tmp 13)) 54 (.slice af nf cf) hS ?_
                simp only [pA, pB, pC, pD]
                refine tN 8 (some 120) (.move (.tmp 15)) 22 (.slice aB nB cB) hS ?_
                simp only [pA, pB, pC, pD]
                refine tN 9 (some 121) (.move (.tmp 13)) 54 (.slice af nf cf) hS ?_
                simp only [pA, pB, pC, pD]
                refine tN 10 (some 122) (.move (.tmp 12)) 3 (.int .i64 mi) hS ?_
                simp only [pA, pB, pC, pD]
                refine tN 13 (some 125) (.move (.tmp 8)) 3 (.int .i64 (k : Int)) hS ?_
                simp only [pA, pB, pC, pD]
                refine tN 14 (some 126) (.move (.tmp 16)) 3 (.int .i64 (j : Int)) hS ?_
                simp only [pA, pB, pC, pD]
                refine tN 15 (some 127) (.binOp .add 3 (.tmp 125) (.tmp 126) 3) 3 (.int .i64 ((k : Int) + (j : Int))) hS ?_
                simp only [pA, pB, pC, pD]
                refine rD 11 (some 123) (.call ⟨.value (.func 79), #[.tmp 121, .tmp 122], #[54, 3]⟩) 4 fun _ _ K hK => ?_
                rw [if_pos (by kernel_rfl)]
                go_simp
                refine (HCl.o w12.drew (RfO.fdl (ow_up HRF12.o (Up.refl _).drew))).mono ?_
                rintro e w13 ⟨rfl, h9⟩
                have HU13 := Ho (HU12.o.drew.trans h9)
                have HA13 := Ho ((HA12.o.up (Up.refl _).drew).up h9)
                have HKa13 := Ho (h9.cell ((Up.refl w12).drew.cell HKa12.o))
                have HKb13 := Ho (h9.cell ((Up.refl w12).drew.cell HKb12.o))
                have HRF13 := Ho (ow_up (ow_up HRF12.o (Up.refl _).drew) h9)
                have HSb13 := Ho ((HSb12.o.up (Up.refl _).drew).up h9)
                clear h9
                dsimp only
                refine hK.out _ _ ⟨⟨z6, rfl, HA13.o⟩, HKa13.o, HKb13.o, HU13.o⟩ (fun hS => ?_)
                clear hK K
                refine tN 12 (some 124) (.build 56 #[(0, .tmp 114), (1, .tmp 117), (2, .tmp 118), (3, .tmp 119), (4, .tmp 120), (5, .tmp 123)]) 56 (.agg #[.string A, .string B, .int .i64 mi, .slice af nf cf, .slice aB nB cB, .bool bcl]) hS ?_
                simp only [Act.put, pB, pC, pD]
                refine rD 16 none (.store 56 (.tmp 2) (.tmp 124)) 0 fun _ _ K hK => oper_of_list ?_
                refine wpList_store_at rfl 56 _ _ rfl (w.heap.size) HA13.o [.string A, .string B, .int .i64 mi, .slice af nf cf, .slice aB nB cB, .bool bcl] rfl rfl rfl (by kernel_rfl) (by kernel_rfl) ?_
                intro w8 hA8 hg8
                have HA8 := Ho hA8
                have HU8 := Ho (HU13.o.bz hg8)
                have HKa8 := Ho (show w8.cell? ⟨b0, off, none⟩ = some (.string A) from (hg8.cell_far _ (cell_lt HKa13.o) (fun e => hb0 (Option.some.inj e))).trans HKa13.o)
                have HKb8 := Ho (show w8.cell? ⟨b0, off + 1, none⟩ = some (.string B) from (hg8.cell_far _ (cell_lt HKb13.o) (fun e => hb0 (Option.some.inj e))).trans HKb13.o)
                have HRF8 := Ho (show RfO w8 w.heap.size af fs cf from ow_base (RfO.grow HRF13.o hg8 hwN) (Nat.le_of_lt hwN))
                have HSb8 := Ho (HSb13.o.kept hg8 hvb)
                clear hA8 hg8
                refine hK.out _ _ ⟨⟨_, rfl, HA8.o⟩, HKa8.o, HKb8.o, HU8.o⟩ (fun hS => ?_)
                clear hK K
                refine tN 17 (some 3) (.assign (.tmp 127)) 3 (.int .i64 ((k : Int) + (j : Int))) hS ?_
                simp only [Act.put, pB, pC, pD]
                refine tN 18 (some 4) (.assign (.const (.int .i64 0))) 3 (.int .i64 0) hS ?_
                simp only [pA, pB, pC, pD]
                clear hS
                refine wpAnyH_done (by kernel_rfl) ?_ _
                repeat go_step
                refine bodyPost_ret (result_cell_tmp2 Tryz.results30 _ _ (w.heap.size) [.string A, .string B, .int .i64 mi, .slice af nf cf, .slice aB nB cB, .bool bcl] _ _ rfl rfl rfl HA8.o.range Tryz.underlying56 rfl (by kernel_rfl)) rfl ?_
                rw [HE.o]
                refine ⟨⟨af, cf, .slice aB nB cB, ?_, Ho ⟨HRF8.o, HSb8.o⟩⟩, HU8.o⟩
                exact (congrArg Ending.returned HVal.o).symm
         have hmiz : (1 : Int) < mi := by omega
         have HE := Ho (show rv = .error 4 by rw [← HR.o, HRq2.o, if_neg (fun h => hmi h.2)])
        rotate_left
        case' _ =>
         have hmjz : (mj != 1) = true := by rw [bne_iff_ne]; exact hmj
         have HE := Ho (show rv = .error 4 by rw [← HR.o, HRq2.o, if_neg (fun h => hmj h.1)])
         clear hmj
        all_goals
         go_wp2_with (with_reducible refine sS 56 ?_)
         show wpList _ _ _ _ _ _
         refine wpList_store_at rfl 56 _ _ rfl (w.heap.size) HA7.o z6 rfl rfl rfl (by kernel_rfl) (by kernel_rfl) ?_
         intro w8 hA8 hg8
         have HA8 := Ho hA8
         have HU8 := Ho (HU7.o.bz hg8)
         clear hA8 hg8
         simp only [Act.put]
         repeat go_step
         refine bodyPost_ret (result_cell_tmp2 Tryz.results30 _ _ (w.heap.size) z6 _ _ rfl rfl rfl HA8.o.range Tryz.underlying56 rfl (by kernel_rfl)) rfl ?_
         rw [HE.o]
         exact ⟨rfl, HU8.o⟩
  have h3z : ((np : Int) != 3) = true := by rw [bne_iff_ne]; omega
  have HE := Ho (show rv = .error 3 by rw [← HR.o, HOth.o h3])
  clear HOth HThr
  go_wp2_with (with_reducible refine sS 56 ?_)
  show wpList _ _ _ _ _ _
  refine wpList_store_at rfl 56 _ _ rfl (w.heap.size) HA3.o z6 rfl rfl rfl (by kernel_rfl) (by kernel_rfl) ?_
  intro w8 hA8 hg8
  have HA8 := Ho hA8
  have HU8 := Ho (HU3.o.bz hg8)
  clear hA8 hg8
  simp only [Act.put]
  repeat go_step
  refine bodyPost_ret (result_cell_tmp2 Tryz.results30 _ _ (w.heap.size) z6 _ _ rfl rfl rfl HA8.o.range Tryz.underlying56 rfl (by kernel_rfl)) rfl ?_
  rw [HE.o]
  exact ⟨rfl, HU8.o⟩
set_option maxRecDepth 100000 in
set_option maxHeartbeats 2000000 in
theorem sameFields_same (a1 a2 : Option Addr) (fs : List FD) (c1' c2' n : Nat) (hn : fs.length = n) (hl : n ≤ 1048576) (w : World) (h1 : FdL w a1 fs c1') (h2 : FdL w a2 fs c2') :
  Calls Tryz.prog 58 #[.slice a1 n c1', .slice a2 n c2'] w fun e w' => e = .returned (.bool true) ∧ Up w w' := by
 have HF1 := Ho h1
 have HF2 := Ho h2
 have HNn := Ho hn
 have hcap1 := h1.cap
 have hcap2 := h2.cap
 rw [hn] at hcap1 hcap2
 clear h1 h2 hn
 go_enter Tryz.func58, Tryz.ntmps58
 go_wp2
 go_loopw [5] (fun v5 wr => ∃ i : Nat, v5 = .int .i64 (i : Int) ∧ i ≤ n ∧ Hd (Up w wr)) (fun v5 _ => n - (intOf v5).toNat)
 case atStart => exact ⟨0, rfl, Nat.zero_le _, Ho (Up.refl _)⟩
 case round =>
  obtain ⟨i, rfl, hi, hU⟩ := hrel
  have HU := Ho hU.o
  clear hU
  by_cases hil : i < n
  · have hilz : (i : Int) < (n : Int) := by omega
    have hil2 : i < fs.length := by rw [HNn.o]; exact hil
    obtain ⟨b1, o1, rfl, k1, k2⟩ := HF1.o.cells i hil2
    obtain ⟨b2, o2, rfl, k3, k4⟩ := HF2.o.cells i hil2
    obtain ⟨f, hf⟩ := ny (fs[i])
    rw [hf] at k1 k2 k3 k4
    have HC1 := Ho (HU.o.cell k1)
    have HC2 := Ho (HU.o.cell k2)
    have HC3 := Ho (HU.o.cell k3)
    have HC4 := Ho (HU.o.cell k4)
    clear hf k1 k2 k3 k4 hil2
    go_wp2
    refine wp_region_held_drew (S := fun w2 => Up wr w2) (by kernel_rfl) (Up.refl wr).drew (fun hS => ?_)
    refine tN 0 (some 17) (.move (.tmp 0)) 36 (.slice (some ⟨b1, o1, none⟩) n c1') hS ?_
    simp only [Act.put, pB, pC, pD]
    refine tN 1 (some 18) (.move (.tmp 5)) 3 (.int .i64 (i : Int)) hS ?_
    simp only [pA, pB, pC, pD]
    refine tK 2 (some 19) (.indexAddr 36 (.tmp 17) (.tmp 18)) 0 (.pointer (some ⟨b1, o1 + i * 2, none⟩)) hS ?_ ?_
    · intro _ _ w5 hSw
      clear hSw hS
      exact exec_idxFd i hil rfl rfl rfl
    simp only [pA, pB, pC, pD]
    refine tN 3 (some 20) (.fieldAddr 89 (.tmp 19) 0) 0 (.pointer (some ⟨b1, o1 + i * 2, none⟩)) hS ?_
    simp only [pA, pB, pC, pD]
    refine tK 4 (some 21) (.load 9 (.tmp 20)) 9 (.string f.n) hS ?_ ?_
    · intro _ _ w5 hSw
      have h0 : w5.cell? ⟨b1, o1 + i * 2, none⟩ = _ := hSw.cell HC1.o
      clear hSw hS
      go_simp
    simp only [pA, pB, pC, pD]
    refine tN 5 (some 22) (.move (.tmp 1)) 54 (.slice (some ⟨b2, o2, none⟩) n c2') hS ?_
    simp only [pA, pB, pC, pD]
    refine tN 6 (some 23) (.move (.tmp 5)) 3 (.int .i64 (i : Int)) hS ?_
    simp only [pA, pB, pC, pD]
    refine tK 7 (some 24) (.indexAddr 54 (.tmp 22) (.tmp 23)) 0 (.pointer (some ⟨b2, o2 + i * 2, none⟩)) hS ?_ ?_
    · intro _ _ w5 hSw
      clear hSw hS
      exact exec_idxRf i hil rfl rfl rfl
    simp only [pA, pB, pC, pD]
    refine tN 8 (some 25) (.fieldAddr 102 (.tmp 24) 0) 0 (.pointer (some ⟨b2, o2 + i * 2, none⟩)) hS ?_
    simp only [pA, pB, pC, pD]
    refine tK 9 (some 26) (.load 9 (.tmp 25)) 9 (.string f.n) hS ?_ ?_
    · intro _ _ w5 hSw
      have h0 : w5.cell? ⟨b2, o2 + i * 2, none⟩ = _ := hSw.cell HC3.o
      clear hSw hS
      go_simp
    simp only [pA, pB, pC, pD]
    refine tN 10 (some 27) (.binOp .neq 9 (.tmp 21) (.tmp 26) 9) 4 (.bool false) hS ?_
    simp only [pA, pB, pC, pD]
    refine tN 11 (some 28) (.move (.tmp 27)) 4 (.bool false) hS ?_
    simp only [pA, pB, pC, pD]
    refine wpAnyH_take (i := 12) (oi := ⟨some 29, .move (.tmp 0), 36, "law.go:146", #[eG 11], some (11, false)⟩) (v := .slice (some ⟨b1, o1, none⟩) n c1') rfl (by kernel_rfl) (by kernel_rfl) (by kernel_rfl) (fun _ _ _ h => h) (Or.inl ⟨by kernel_rfl, ?_⟩) hS ?_
    · intro w5 hSw
      clear hSw hS
      go_simp
    simp only [pA, pB, pC, pD]
    refine wpAnyH_take (i := 13) (oi := ⟨some 30, .move (.tmp 5), 3, "law.go:146", #[eG 11], some (11, false)⟩) (v := .int .i64 (i : Int)) rfl (by kernel_rfl) (by kernel_rfl) (by kernel_rfl) (fun _ _ _ h => h) (Or.inl ⟨by kernel_rfl, ?_⟩) hS ?_
    · intro w5 hSw
      clear hSw hS
      go_simp
    simp only [pA, pB, pC, pD]
    refine wpAnyH_take (i := 14) (oi := ⟨some 31, .indexAddr 36 (.tmp 29) (.tmp 30), 0, "law.go:146", #[eD 12, eD 13, eG 11], some (11, false)⟩) (v := .pointer (some ⟨b1, o1 + i * 2, none⟩)) rfl (by kernel_rfl) (by kernel_rfl) (by kernel_rfl) (fun _ _ _ h => h) (Or.inl ⟨by kernel_rfl, ?_⟩) hS ?_
    · intro w5 hSw
      clear hSw hS
      exact exec_idxFd i hil rfl rfl rfl
    simp only [pA, pB, pC, pD]
    refine wpAnyH_take (i := 15) (oi := ⟨some 32, .fieldAddr 89 (.tmp 31) 1, 0, "law.go:146", #[eD 14, eG 11], some (11, false)⟩) (v := .pointer (some ⟨b1, o1 + i * 2 + 1, none⟩)) rfl (by kernel_rfl) (by kernel_rfl) (by kernel_rfl) (fun _ _ _ h => h) (Or.inl ⟨by kernel_rfl, ?_⟩) hS ?_
    · intro w5 hSw
      clear hSw hS
      go_simp
    simp only [pA, pB, pC, pD]
    refine wpAnyH_take (i := 16) (oi := ⟨some 33, .load 9 (.tmp 32), 9, "law.go:146", #[eD 15, eG 11], some (11, false)⟩) (v := .string f.v) rfl (by kernel_rfl) (by kernel_rfl) (by kernel_rfl) (fun _ _ _ h => h) (Or.inl ⟨by kernel_rfl, ?_⟩) hS ?_
    · intro w5 hSw
      have h0 : w5.cell? ⟨b1, o1 + i * 2 + 1, none⟩ = _ := hSw.cell HC2.o
      clear hSw hS
      go_simp
    simp only [pA, pB, pC, pD]
    refine wpAnyH_take (i := 17) (oi := ⟨some 34, .move (.tmp 1), 54, "law.go:146", #[eG 11], some (11, false)⟩) (v := .slice (some ⟨b2, o2, none⟩) n c2') rfl (by kernel_rfl) (by kernel_rfl) (by kernel_rfl) (fun _ _ _ h => h) (Or.inl ⟨by kernel_rfl, ?_⟩) hS ?_
    · intro w5 hSw
      clear hSw hS
      go_simp
    simp only [pA, pB, pC, pD]
    refine wpAnyH_take (i := 18) (oi := ⟨some 35, .move (.tmp 5), 3, "law.go:146", #[eG 11], some (11, false)⟩) (v := .int .i64 (i : Int)) rfl (by kernel_rfl) (by kernel_rfl) (by kernel_rfl) (fun _ _ _ h => h) (Or.inl ⟨by kernel_rfl, ?_⟩) hS ?_
    · intro w5 hSw
      clear hSw hS
      go_simp
    simp only [pA, pB, pC, pD]
    refine wpAnyH_take (i := 19) (oi := ⟨some 36, .indexAddr 54 (.tmp 34) (.tmp 35), 0, "law.go:146", #[eD 17, eD 18, eG 11], some (11, false)⟩) (v := .pointer (some ⟨b2, o2 + i * 2, none⟩)) rfl (by kernel_rfl) (by kernel_rfl) (by kernel_rfl) (fun _ _ _ h => h) (Or.inl ⟨by kernel_rfl, ?_⟩) hS ?_
    · intro w5 hSw
      clear hSw hS
      exact exec_idxRf i hil rfl rfl rfl
    simp only [pA, pB, pC, pD]
    refine wpAnyH_take (i := 20) (oi := ⟨some 37, .fieldAddr 102 (.tmp 36) 1, 0, "law.go:146", #[eD 19, eG 11], some (11, false)⟩) (v := .pointer (some ⟨b2, o2 + i * 2 + 1, none⟩)) rfl (by kernel_rfl) (by kernel_rfl) (by kernel_rfl) (fun _ _ _ h => h) (Or.inl ⟨by kernel_rfl, ?_⟩) hS ?_
    · intro w5 hSw
      clear hSw hS
      go_simp
    simp only [pA, pB, pC, pD]
    refine wpAnyH_take (i := 21) (oi := ⟨some 38, .load 9 (.tmp 37), 9, "law.go:146", #[eD 20, eG 11], some (11, false)⟩) (v := .string f.v) rfl (by kernel_rfl) (by kernel_rfl) (by kernel_rfl) (fun _ _ _ h => h) (Or.inl ⟨by kernel_rfl, ?_⟩) hS ?_
    · intro w5 hSw
      have h0 : w5.cell? ⟨b2, o2 + i * 2 + 1, none⟩ = _ := hSw.cell HC4.o
      clear hSw hS
      go_simp
    simp only [pA, pB, pC, pD]
    refine wpAnyH_take (i := 22) (oi := ⟨some 39, .binOp .neq 9 (.tmp 33) (.tmp 38) 9, 4, "law.go:146", #[eD 16, eD 21, eG 11], some (11, false)⟩) (v := .bool false) rfl (by kernel_rfl) (by kernel_rfl) (by kernel_rfl) (fun _ _ _ h => h) (Or.inl ⟨by kernel_rfl, ?_⟩) hS ?_
    · intro w5 hSw
      clear hSw hS
      go_simp
    simp only [pA, pB, pC, pD]
    refine tN 23 (some 40) (.pick (.tmp 28) (.const (.bool true)) (.tmp 39)) 4 (.bool false) hS ?_
    simp only [pA, pB, pC, pD]
    refine wpAnyH_done (by kernel_rfl) ?_ _
    have HS := Ho hS
    clear hS
    go_wp2
    go_roundw
    all_goals first
     | exact ⟨i + 1, by go_num, by omega, Ho (HU.o.trans HS.o)⟩
     | (simp [intOf]; omega)
  have hilz : ¬ (i : Int) < (n : Int) := by omega
  go_wp2
  go_ret
  exact ⟨rfl, HU.o⟩
set_option maxRecDepth 100000 in
set_option maxHeartbeats 2000000 in
theorem sameReq_same (M T : ByteArray) (mi : Int) (fs : List FD) (nf : Nat) (cl : Bool) (a1 a2 : Option Addr) (c1' c2' : Nat) (v1 v2 : Value) (b : List UInt8) (hnf : fs.length = nf) (hl : nf ≤ 1048576) (w : World) (h1 : FdL w a1 fs c1') (h2 : FdL w a2 fs c2') (s1 : Sb w v1 b) (s2 : Sb w v2 b) :
  Calls Tryz.prog 21 #[.agg #[.string M, .string T, .int .i64 mi, .slice a1 nf c1', v1, .bool cl], .agg #[.string M, .string T, .int .i64 mi, .slice a2 nf c2', v2, .bool cl]] w fun e w' => e = .returned (.bool true) ∧ Up w w' := by
 obtain ⟨aB, nB, cB, rfl⟩ := Sb.shape s1
 obtain ⟨aC, nC, cC, rfl⟩ := Sb.shape s2
 have HNf := Ho hnf
 clear hnf
 obtain ⟨w1, hw1⟩ := ny ((w.alloc (.cells [.string M, .string T, .int .i64 mi, .slice a1 nf c1', .slice aB nB cB, .bool cl].toArray 48)).alloc (.cells [.string M, .string T, .int .i64 mi, .slice a2 nf c2', .slice aC nC cC, .bool cl].toArray 56))
 have HU := Ho (show Up w w1 by rw [← hw1]; exact ((Up.refl w).alloc _).alloc _)
 have A1 : At w1 w.heap.size 48 [.string M, .string T, .int .i64 mi, .slice a1 nf c1', .slice aB nB cB, .bool cl] := by
  rw [← hw1]
  exact (at_new w 48 [.string M, .string T, .int .i64 mi, .slice a1 nf c1', .slice aB nB cB, .bool cl]).up ((Up.refl _).alloc _)
 have A2 : At w1 (w.heap.size + 1) 56 [.string M, .string T, .int .i64 mi, .slice a2 nf c2', .slice aC nC cC, .bool cl] := by
  rw [← hw1]
  have := at_new (w.alloc (.cells [.string M, .string T, .int .i64 mi, .slice a1 nf c1', .slice aB nB cB, .bool cl].toArray 48)) 56 [.string M, .string T, .int .i64 mi, .slice a2 nf c2', .slice aC nC cC, .bool cl]
  rw [alloc_size] at this
  exact this
 have HA1 := Ho A1
 have HA2 := Ho A2
 have HAl := Ho (sameFields_same a1 a2 fs c1' c2' nf HNf.o hl w1 (h1.up HU.o) (h2.up HU.o))
 have HS1 := Ho s1
 have HS2 := Ho s2
 go_enter Tryz.func21, Tryz.ntmps21
 go_wp2_with (with_reducible refine sF 48 ?_)
 show wpList _ _ _ _ _ _
 clear hw1 s1 s2 h1 h2
 have p0 : w1.cell? ⟨w.heap.size, 0, none⟩ = _ := A1.cell (i := 0) rfl
 have p1 : w1.cell? ⟨w.heap.size, 1, none⟩ = _ := A1.cell (i := 1) rfl
 have p2 : w1.cell? ⟨w.heap.size, 2, none⟩ = _ := A1.cell (i := 2) rfl
 have p3 : w1.cell? ⟨w.heap.size, 3, none⟩ = _ := A1.cell (i := 3) rfl
 have p5 : w1.cell? ⟨w.heap.size, 5, none⟩ = _ := A1.cell (i := 5) rfl
 have q0 : w1.cell? ⟨w.heap.size + 1, 0, none⟩ = _ := A2.cell (i := 0) rfl
 have q1 : w1.cell? ⟨w.heap.size + 1, 1, none⟩ = _ := A2.cell (i := 1) rfl
 have q2 : w1.cell? ⟨w.heap.size + 1, 2, none⟩ = _ := A2.cell (i := 2) rfl
 have q3 : w1.cell? ⟨w.heap.size + 1, 3, none⟩ = _ := A2.cell (i := 3) rfl
 have q5 : w1.cell? ⟨w.heap.size + 1, 5, none⟩ = _ := A2.cell (i := 5) rfl
 clear A1 A2
 have e1 : (M.toList == M.toList) = true := beq_self_eq_true _
 have e2 : (T.toList == T.toList) = true := beq_self_eq_true _
 have e3 : (mi != mi) = false := by simp
 have e4 : (cl != cl) = false := by simp
 go_wp2_with fail
 refine HAl.o.mono ?_
 rintro e w2 ⟨rfl, u2⟩
 have HU2 := Ho (HU.o.trans u2)
 have p4 : w2.cell? ⟨w.heap.size, 4, none⟩ = some (.slice aB nB cB) := (HA1.o.up u2).cell (i := 4) rfl
 have q4 : w2.cell? ⟨w.heap.size + 1, 4, none⟩ = some (.slice aC nC cC) := (HA2.o.up u2).cell (i := 4) rfl
 have cv1 := conv_sb2 (HS1.o.up HU2.o)
 have cv2 := conv_sb2 (HS2.o.up HU2.o)
 clear u2 p0 p1 p2 p3 p5 q0 q1 q2 q3 q5
 dsimp only
 obtain ⟨B, hB⟩ := ny (⟨b.toArray⟩ : ByteArray)
 rw [hB] at cv1 cv2
 have e5 : (B.toList == B.toList) = true := beq_self_eq_true _
 go_wp2
 go_ret
 exact ⟨rfl, HU2.o⟩
theorem wpList_load_midH {ops : Array Oper} {rest : List Oper} {op : Oper} {a : Act} {w : World} {Q : Exit → Act → World → Prop} (hw : Region.wanted op (yielded ops a.tmps) = true) (ty : TypeId) (x : Operand) (ho : op.op = .load ty x)
  (b o : Nat) (hx : a.eval x = .pointer (some ⟨b, o, none⟩)) (cs : List Value) (d : TypeDesc) (hc : w.rangeAt b o cs)
  (hu : Tryz.prog.underlying ty = some d) (hd : d.isRow = true) (hi : (Tryz.prog.info? ty).map (·.size) = some cs.length)
  (h : wpList Tryz.prog ops Q rest (a.put op.dst (.agg cs.toArray)) w) : wpList Tryz.prog ops Q (op :: rest) a w :=
 wpList_step fun K hK => by
  simp only [hw, if_true]
  exact wp_load_mid ty x ho b o hx cs d hc hu hd hi (hK _ _ h)
theorem RParseRequest_dat {a : Option Addr} {n c : Nat} {ds : List UInt8} (hn40 : n ≤ 1099511627000) (w : World) (hS : Sb w (.slice a n c) ds) (hMt : w.rangeAt 0 0 mtC) : Calls Tryz.prog 30 #[.slice a n c] w fun e w' => (∃ a c v, e = .returned (.tuple #[qV (datQ (rqP ds)) a c v, .int .i64 (datQ (rqP ds)).n, .int .i64 (datQ (rqP ds)).e]) ∧ Hd (FdL w' a (datQ (rqP ds)).fs c ∧ Sb w' v (datQ (rqP ds)).b)) ∧ Up w w' := by
 refine (RParseRequest_walk hn40 w hS hMt).mono ?_
 rintro e w' ⟨hR, hU⟩
 refine ⟨?_, hU⟩
 cases h : rqP ds with
 | error k =>
  rw [h] at hR
  obtain rfl : e = _ := hR
  exact ⟨none, 0, .slice none 0 0, rfl, Ho ⟨fdl_nil w', sb_nil' w'⟩⟩
 | ok q =>
  obtain ⟨⟨x, b⟩, n'⟩ := q
  rw [h] at hR
  obtain ⟨a', c', v, rfl, hO⟩ := hR
  exact ⟨a', c', v, rfl, Ho ⟨hO.o.1.fdl, hO.o.2⟩⟩
set_option maxRecDepth 100000 in
set_option maxHeartbeats 2000000 in
theorem Rbare2_walk (z : Int) (w : World) : Calls Tryz.prog 81 #[.int .i64 z] w fun e w' => e = .returned (.bool (bdl z)) ∧ w' = w := by
 obtain ⟨rv, hrv⟩ := ny (bdl z)
 have HR := Ho hrv
 rw [hrv]
 clear hrv
 unfold bdl at HR
 by_cases h0 : 100 ≤ z ∧ z ≤ 199
 · have h1 := h0.1
   have h2 := h0.2
   have h3 : z < 200 := by omega
   have HE := Ho (show rv = true by rw [← HR.o, decide_eq_true h1, decide_eq_true h2]; rfl)
   clear h0
   go_enter Tryz.func81, Tryz.ntmps81
   go_wp2
   go_ret
   rw [HE.o]
   exact ⟨rfl, rfl⟩
 have hd : (decide (100 ≤ z) && decide (z ≤ 199)) = false := by
  rw [Bool.and_eq_false_iff, decide_eq_false_iff_not, decide_eq_false_iff_not]; omega
 have HR2 := Ho (show rv = ((z == 204) || (z == 304)) by rw [← HR.o, hd]; rfl)
 clear HR hd
 cases h4 : (z == 204) with
 | true =>
  rw [h4] at HR2
  have HE := Ho (show rv = true from HR2.o)
  have hz : z = 204 := by simpa using h4
  subst hz
  clear h0
  go_enter Tryz.func81, Tryz.ntmps81
  go_wp2
  go_ret
  rw [HE.o]
  exact ⟨rfl, rfl⟩
 | false =>
  rw [h4] at HR2
  have HE := Ho (show rv = (z == 304) by rw [HR2.o]; rfl)
  by_cases h1 : 100 ≤ z
  · have h2 : ¬ z < 200 := by omega
    clear h0
    go_enter Tryz.func81, Tryz.ntmps81
    go_wp2
    go_ret
    rw [HE.o]
    exact ⟨rfl, rfl⟩
  clear h0
  go_enter Tryz.func81, Tryz.ntmps81
  go_wp2
  go_ret
  rw [HE.o]
  exact ⟨rfl, rfl⟩
def rsX (l : List UInt8) : Er ((Rs × Bool × List UInt8) × Nat) := match rHd 3 l with
 | .error k => .error k
 | .ok (st, ls, k) => match rsl st with
   | .error e => .error e
   | .ok (s, mi) => match rfd ls with
     | .error e => .error e
     | .ok fs => if bdl (s : Int) = true then .ok ((⟨s, mi, fs⟩, cls (mi == 0) fs, []), k) else match rln fs mi with
       | .error e => .error e
       | .ok n => if n = -1 then (if 1048576 < (l.drop k).length then .error 7 else .ok ((⟨s, mi, fs⟩, true, l.drop k), k + (l.drop k).length)) else match bdy n (l.drop k) with
         | .error e => .error e
         | .ok (b, j) => .ok ((⟨s, mi, fs⟩, cls (mi == 0) fs, b), k + j)
theorem rsP_rsX (l : List UInt8) : rsP l = rsX l := by
 have h := cHd_ref (α := Er ((Rs × Bool × List UInt8) × Nat)) 3 l (fun k => .error k) (fun st R k => match rsl st with
  | .error e => .error e
  | .ok (s, mi) => match R with
    | .error e => .error e
    | .ok fs => match rsF (s : Int) fs mi with
      | .error e => .error e
      | .ok (way, len) => match fcu way len (l.drop k) with
        | .error e => .error e
        | .ok (b, j) => .ok ((⟨s, mi, fs⟩, (way == 1) || cls (mi == 0) fs, b), k + j))
 have e1 : rsP l = match cHd 3 l with
  | .error k => .error k
  | .ok (st, fl, k) => match rsl st with
    | .error e => .error e
    | .ok (s, mi) => match rdf fl with
      | .error e => .error e
      | .ok fs => match rsF (s : Int) fs mi with
        | .error e => .error e
        | .ok (way, len) => match fcu way len (l.drop k) with
          | .error e => .error e
          | .ok (b, j) => .ok ((⟨s, mi, fs⟩, (way == 1) || cls (mi == 0) fs, b), k + j) := by
  unfold rsP msg rsg
  cases cHd 3 l with
  | error k => rfl
  | ok q =>
   obtain ⟨st, fl, k⟩ := q
   dsimp only
   cases rsl st with
   | error e => rfl
   | ok q =>
    obtain ⟨s, mi⟩ := q
    dsimp only
    cases rdf fl with
    | error e => rfl
    | ok fs =>
     dsimp only
     cases rsF (s : Int) fs mi with
     | error e => rfl
     | ok q => rfl
 refine e1.trans (Eq.trans (by exact h) ?_)
 unfold rsX
 cases hr : rHd 3 l with
 | error k => rfl
 | ok q =>
  obtain ⟨st, ls, k⟩ := q
  have hsm := rHd_small hr
  dsimp only
  cases rsl st with
  | error e => rfl
  | ok q =>
   obtain ⟨s, mi⟩ := q
   dsimp only
   cases hfd : rfd ls with
   | error e => rfl
   | ok fs =>
    have hsz := rfd_small hsm.2.1 hfd
    have hs : ∀ f ∈ fs, f.v.size ≤ 1048576 := fun f hf => by have := szs_mem fs hf; omega
    dsimp only
    unfold rsF
    by_cases hb : bdl (s : Int) = true
    · rw [if_pos hb, if_pos hb]
      have e2 : fcu 0 0 (l.drop k) = .ok ([], 0) := by unfold fcu; rw [if_neg (by decide), if_neg (by decide), if_neg (by decide)]
      dsimp only
      rw [e2]
      rfl
    rw [if_neg hb, if_neg hb]
    have h1 := frm_rln fs mi 1 hs
    cases hl : rln fs mi with
    | error e =>
     rw [hl] at h1
     rw [h1]
    | ok n =>
     rw [hl] at h1
     dsimp only at h1 ⊢
     rcases rln_ok hl with rfl | rfl | ⟨h0, hm⟩
     · rw [if_pos rfl] at h1
       rw [h1, if_neg (by decide)]
       have e2 : fcu 3 0 (l.drop k) = bdy (-2) (l.drop k) := by
        unfold fcu bdy
        rw [if_pos rfl, if_pos rfl]
        cases unk (l.drop k) <;> rfl
       dsimp only
       rw [e2]
       rfl
     · rw [if_neg (by decide), if_pos rfl] at h1
       rw [h1, if_pos rfl]
       have e2 : fcu 1 0 (l.drop k) = if 1048576 < (l.drop k).length then .error 7 else .ok (l.drop k, (l.drop k).length) := by
        unfold fcu
        rw [if_neg (by decide), if_pos rfl]
       dsimp only
       rw [e2]
       by_cases hbig : 1048576 < (l.drop k).length
       · rw [if_pos hbig, if_pos hbig]
       rw [if_neg hbig, if_neg hbig]
       rfl
     rw [if_neg (by omega), if_neg (by omega)] at h1
     rw [h1, if_neg (by omega)]
     have e2 : fcu 2 n.toNat (l.drop k) = bdy n (l.drop k) := by
      unfold fcu bdy
      rw [if_neg (by decide), if_neg (by decide), if_pos rfl, if_neg (show ¬ n = -2 by omega)]
     dsimp only
     rw [e2]
     rfl
theorem grown_set2 (W : World) (b o : Nat) (v : Value) : W.grownBy (W.setCell ⟨b, o, none⟩ v) (some b) :=
 ⟨rfl, rfl, rfl, (KeepsWalks.setCell W _ v).size, fun k _ hk => Below.heap_setCell _ _ _ k (fun e => hk (by rw [e]))⟩
def RPsR (w w' : World) (e : Ending) : Er ((Rs × Bool × List UInt8) × Nat) → Prop
 | .error k => e = .returned (.tuple #[.agg z5.toArray, .int .i64 0, .int .i64 (numK k)])
 | .ok ((x, cl, b), n) => ∃ a c v, e = .returned (.tuple #[rsV x cl a c v, .int .i64 (n : Int), .int .i64 0]) ∧ Hd (RfO w' w.heap.size a x.fs c ∧ Sb w' v b)
theorem stn_lt {l : List UInt8} (h : sok l = true) : stn l ≤ 999 := by
 obtain ⟨a, b, c, t, ha, hb, hc, hl, h8, ht⟩ := sok_form h
 have h1 := isD_nat ha
 have h2 := isD_nat hb
 have h3 := isD_nat hc
 have h4 := (sok_of h8 ha hb hc ht).2.2
 rw [← hl] at h4
 rw [h4]
 unfold nv nvf
 simp only [List.foldl_cons, List.foldl_nil]
 omega
set_option maxRecDepth 100000 in
set_option maxHeartbeats 16000000 in
theorem RParseResponse_walk {a : Option Addr} {n c : Nat} {ds : List UInt8} (hn40 : n ≤ 1099511627000) (w : World) (hS : Sb w (.slice a n c) ds) : Calls Tryz.prog 31 #[.slice a n c] w fun e w' => RPsR w w' e (rsP ds) ∧ Up w w' := by
 rw [rsP_rsX]
 obtain ⟨hn, hnc, hcm⟩ := hS.len
 have HA1 := Ho (at_new w 73 z5)
 have HU1 := Ho ((Up.refl w).alloc (.cells z5.toArray 73))
 have hcv : (convert 22 9 (.slice a n c)).run Tryz.prog (w.alloc (.cells #[.int .i64 0, .int .i64 0, .slice none 0 0, .slice none 0 0, .bool false] 73)) = .ok (.string ⟨ds.toArray⟩) (w.alloc (.cells #[.int .i64 0, .int .i64 0, .slice none 0 0, .slice none 0 0, .bool false] 73)) := conv_sb2 (hS.up HU1.o)
 clear hS hnc hcm
 obtain ⟨s, hs⟩ := ny (⟨ds.toArray⟩ : ByteArray)
 have HL := Ho (show s.data.toList = ds by rw [← hs])
 have HZ := Ho (show s.size = ds.length by rw [Go.Lib.size_eq, HL.o])
 have hsz : s.size ≤ 1099511627000 := by rw [HZ.o]; omega
 rw [hs] at hcv
 clear hs hn
 obtain ⟨rv, hrv⟩ := ny (rsX ds)
 have HR := Ho hrv
 unfold rsX at HR
 rw [hrv]
 clear hrv
 have HCh := Ho (RcutHead_walk s 3 (by decide) 141 rfl hsz (w.alloc (.cells z5.toArray 73)))
 rw [HL.o] at HCh
 go_enter Tryz.func31, Tryz.ntmps31
 go_wp2_with fail
 change Calls _ _ _ (w.alloc (.cells z5.toArray 73)) _
 clear hcv
 generalize w.alloc (.cells z5.toArray 73) = w1 at *
 refine HCh.o.mono ?_
 rintro e w2 ⟨hC2, h9⟩
 have HU2 := Ho (HU1.o.trans h9)
 have HA2 := Ho (HA1.o.up h9)
 clear h9 HCh
 cases hh : rHd 3 ds with
 | error k =>
  rw [hh] at hC2 HR
  dsimp only at HR
  obtain ⟨a2, n2, c2, rfl⟩ := hC2
  have hne := numK_ne (rHd_er (by decide) hh)
  have HE := Ho (show rv = .error k from HR.o.symm)
  obtain ⟨q, hq⟩ := ny (numK k)
  have HQ := Ho hq
  rw [hq] at hne
  dsimp only
  rw [hq]
  clear hq hh
  go_wp2_with (with_reducible refine sS 73 ?_)
  show wpList _ _ _ _ _ _
  refine wpList_store_at rfl 73 _ _ rfl (w.heap.size) HA2.o z5 rfl rfl rfl (by kernel_rfl) (by kernel_rfl) ?_
  intro w8 hA8 hg8
  have HA8 := Ho hA8
  have HU8 := Ho (HU2.o.bz hg8)
  clear hA8 hg8
  simp only [Act.put]
  repeat go_step
  refine bodyPost_ret (result_cell_tmp2 Tryz.results31 _ _ (w.heap.size) z5 _ _ rfl rfl rfl HA8.o.range Tryz.underlying73 rfl (by kernel_rfl)) rfl ?_
  rw [HE.o]
  refine ⟨?_, HU8.o⟩
  show Ending.returned _ = Ending.returned _
  rw [HQ.o]
  rfl
 | ok q0 =>
  obtain ⟨st, ls, k⟩ := q0
  obtain ⟨hst, hls, hkl⟩ := rHd_small hh
  rw [hh] at hC2 HR
  dsimp only at HR
  obtain ⟨al, cl, rfl, hLS⟩ := hC2
  have HLS2 := Ho hLS.o
  have hcapl := hLS.o.stl.cap
  rw [bts_len] at hcapl
  clear hh hLS
  dsimp only
  obtain ⟨nl, hnl⟩ := ny ls.length
  have HNl := Ho hnl
  have hnlz : nl ≤ 16384 := by rw [← hnl]; have := lsz_len ls; omega
  rw [hnl] at hcapl ⊢
  clear hnl
  obtain ⟨X, hX⟩ := ny (⟨st.toArray⟩ : ByteArray)
  have HXl := Ho (show X.data.toList = st by rw [← hX])
  have hXz : X.size ≤ 8000 := by rw [Go.Lib.size_eq, HXl.o]; exact hst
  have HvX := Ho (show vs st = .string X by rw [← hX])
  rw [HvX.o]
  clear hX hst
  have HSl := Ho (fun w => RstatusLine_walk X (by omega) w)
  rw [HXl.o] at HSl
  have HRl := Ho (rsl_ref st)
  have HSv : Hd (slV st = if sok st = true then .tuple #[.int .i64 (vrs (st.take 8)).1, .int .i64 (vrs (st.take 8)).2, .int .i64 (stn st : Int), .bool (decide (0 ≤ (vrs (st.take 8)).1))] else .tuple #[.int .i64 0, .int .i64 0, .int .i64 0, .bool false]) := Ho rfl
  have HSt := Ho (fun h => stn_lt (l := st) h)
  have HVok := Ho (fun h => vrs_neg (d := st.take 8) h)
  have HVp := Ho (fun h => vrs_pos (d := st.take 8) h)
  generalize rsl st = rq at *
  generalize slV st = sv at *
  generalize sok st = bso at *
  generalize stn st = sn at *
  generalize vrs (st.take 8) = vv at *
  generalize vok (st.take 8) = bvk at *
  go_wp2_with fail
  refine (HSl.o w2).mono ?_
  rintro e w3 ⟨rfl, h9⟩
  have HU3 := Ho (HU2.o.trans h9)
  have HA3 := Ho (HA2.o.up h9)
  have HLS3 := Ho (ow_up HLS2.o h9)
  clear HSl
  clear h9
  cases bso with
  | false =>
   have HE := Ho (show rv = .error 3 by rw [← HR.o, HRl.o]; rfl)
   rw [HSv.o, if_neg (by decide)]
   clear HSv HSt HVok HVp
   go_wp2_with (with_reducible refine sS 73 ?_)
   show wpList _ _ _ _ _ _
   refine wpList_store_at rfl 73 _ _ rfl (w.heap.size) HA3.o z5 rfl rfl rfl (by kernel_rfl) (by kernel_rfl) ?_
   intro w8 hA8 hg8
   have HA8 := Ho hA8
   have HU8 := Ho (HU3.o.bz hg8)
   clear hA8 hg8
   simp only [Act.put]
   repeat go_step
   refine bodyPost_ret (result_cell_tmp2 Tryz.results31 _ _ (w.heap.size) z5 _ _ rfl rfl rfl HA8.o.range Tryz.underlying73 rfl (by kernel_rfl)) rfl ?_
   rw [HE.o]
   exact ⟨rfl, HU8.o⟩
  | true =>
   have hsn := HSt.o rfl
   rw [HSv.o, if_pos rfl]
   clear HSv HSt
   cases bvk with
   | false =>
    have HE := Ho (show rv = .error 3 by rw [← HR.o, HRl.o]; rfl)
    have hvv := HVok.o rfl
    subst hvv
    clear HVok HVp
    dsimp only
    go_wp2_with (with_reducible refine sS 73 ?_)
    show wpList _ _ _ _ _ _
    refine wpList_store_at rfl 73 _ _ rfl (w.heap.size) HA3.o z5 rfl rfl rfl (by kernel_rfl) (by kernel_rfl) ?_
    intro w8 hA8 hg8
    have HA8 := Ho hA8
    have HU8 := Ho (HU3.o.bz hg8)
    clear hA8 hg8
    simp only [Act.put]
    repeat go_step
    refine bodyPost_ret (result_cell_tmp2 Tryz.results31 _ _ (w.heap.size) z5 _ _ rfl rfl rfl HA8.o.range Tryz.underlying73 rfl (by kernel_rfl)) rfl ?_
    rw [HE.o]
    exact ⟨rfl, HU8.o⟩
   | true =>
    obtain ⟨mj, mi⟩ := vv
    dsimp only at HRl HVp ⊢
    obtain ⟨m0, m9, i0, i9⟩ := HVp.o rfl
    rw [decide_eq_true m0]
    clear HVok HVp
    have HRq := Ho (show rq = if ¬ (mj = 1 ∧ mi ≤ 1) then .error 4 else if sto (sn : Int) = false then .error 11 else .ok (sn, mi) from HRl.o)
    clear HRl
    by_cases hmj : mj = 1
    case' _ =>
     subst hmj
     by_cases hmi : mi ≤ 1
     · have hmiz : ¬ (1 : Int) < mi := by omega
       rw [if_neg (fun h => h ⟨rfl, hmi⟩)] at HRq
       by_cases h100 : sn < 100
       · have h100z : (sn : Int) < 100 := by omega
         have HE := Ho (show rv = .error 11 by
          rw [← HR.o, HRq.o, if_pos (by unfold sto; rw [decide_eq_false (by omega)]; rfl)])
         go_wp2_with (with_reducible refine sS 73 ?_)
         show wpList _ _ _ _ _ _
         refine wpList_store_at rfl 73 _ _ rfl (w.heap.size) HA3.o z5 rfl rfl rfl (by kernel_rfl) (by kernel_rfl) ?_
         intro w8 hA8 hg8
         have HA8 := Ho hA8
         have HU8 := Ho (HU3.o.bz hg8)
         clear hA8 hg8
         simp only [Act.put]
         repeat go_step
         refine bodyPost_ret (result_cell_tmp2 Tryz.results31 _ _ (w.heap.size) z5 _ _ rfl rfl rfl HA8.o.range Tryz.underlying73 rfl (by kernel_rfl)) rfl ?_
         rw [HE.o]
         exact ⟨rfl, HU8.o⟩
       have h100z : ¬ (sn : Int) < 100 := by omega
       by_cases h599 : 599 < sn
       · have h599z : (599 : Int) < (sn : Int) := by omega
         have HE := Ho (show rv = .error 11 by
          rw [← HR.o, HRq.o, if_pos (by unfold sto; rw [decide_eq_false (show ¬ (sn : Int) ≤ 599 by omega)]; simp)])
         go_wp2_with (with_reducible refine sS 73 ?_)
         show wpList _ _ _ _ _ _
         refine wpList_store_at rfl 73 _ _ rfl (w.heap.size) HA3.o z5 rfl rfl rfl (by kernel_rfl) (by kernel_rfl) ?_
         intro w8 hA8 hg8
         have HA8 := Ho hA8
         have HU8 := Ho (HU3.o.bz hg8)
         clear hA8 hg8
         simp only [Act.put]
         repeat go_step
         refine bodyPost_ret (result_cell_tmp2 Tryz.results31 _ _ (w.heap.size) z5 _ _ rfl rfl rfl HA8.o.range Tryz.underlying73 rfl (by kernel_rfl)) rfl ?_
         rw [HE.o]
         exact ⟨rfl, HU8.o⟩
       have h599z : ¬ (599 : Int) < (sn : Int) := by omega
       have hsto : sto (sn : Int) = true := by
        unfold sto
        rw [decide_eq_true (show (100 : Int) ≤ (sn : Int) by omega), decide_eq_true (show (sn : Int) ≤ 599 by omega)]
        rfl
       rw [if_neg (by rw [hsto]; simp)] at HRq
       rw [HRq.o] at HR
       dsimp only at HR
       clear HRq hsto
       have HFs := Ho (show ∀ w2, StO w2 w1.heap.size al (bts ls) cl → Calls Tryz.prog 76 #[.slice al nl cl] w2 fun e w' => FsR w2 w' e (rfd ls) ∧ Up w2 w' from fun w2 h => by
        have h1 := Rfields_walk al ls cl w2 h.stl (by rw [HNl.o]; omega) (fun x hx => by have := lsz_mem hx; omega)
        rw [HNl.o] at h1
        exact h1)
       go_wp2_with fail
       refine (HFs.o w3 HLS3.o).mono ?_
       rintro e w5 ⟨hF5, h9⟩
       have HU5 := Ho (HU3.o.trans h9)
       have HA5 := Ho (HA3.o.up h9)
       have HS35 := Ho h9.size
       clear HFs
       clear h9
       cases hfd : rfd ls with
       | error q =>
        rw [hfd] at hF5 HR
        obtain ⟨a2, n2, c2, rfl⟩ := hF5
        have HE := Ho (show rv = .error q from HR.o.symm)
        rcases rfd_er hfd with rfl | rfl
        all_goals
         clear hfd
         dsimp only
         go_wp2_with (with_reducible refine sS 73 ?_)
         show wpList _ _ _ _ _ _
         refine wpList_store_at rfl 73 _ _ rfl (w.heap.size) HA5.o z5 rfl rfl rfl (by kernel_rfl) (by kernel_rfl) ?_
         intro w8 hA8 hg8
         have HA8 := Ho hA8
         have HU8 := Ho (HU5.o.bz hg8)
         clear hA8 hg8
         simp only [Act.put]
         repeat go_step
         refine bodyPost_ret (result_cell_tmp2 Tryz.results31 _ _ (w.heap.size) z5 _ _ rfl rfl rfl HA8.o.range Tryz.underlying73 rfl (by kernel_rfl)) rfl ?_
         rw [HE.o]
         exact ⟨rfl, HU8.o⟩
       | ok fs =>
        have hszs := rfd_small hls hfd
        rw [hfd] at hF5 HR
        dsimp only at HR
        obtain ⟨af, cf, rfl, hRF⟩ := hF5
        have HRF5 := Ho hRF.o
        have hcapf := hRF.o.fdl.cap
        clear hfd hRF
        dsimp only
        obtain ⟨nf, hnf⟩ := ny fs.length
        have HNf := Ho hnf
        rw [hnf] at hcapf ⊢
        clear hnf
        have HLe := Ho (show ∀ w2, RfO w2 w3.heap.size af fs cf → Calls Tryz.prog 77 #[.slice af nf cf, .int .i64 mi] w2 fun e w' => e = .returned (lnR (rln fs mi)) ∧ Up w2 w' from fun w2 h => by
         have h1 := Rlength_walk af fs cf mi w2 h.fdl (by omega)
         rw [HNf.o] at h1
         exact h1)
        have HCl := Ho (show ∀ w2, RfO w2 w3.heap.size af fs cf → Calls Tryz.prog 79 #[.slice af nf cf, .int .i64 mi] w2 fun e w' => e = .returned (.bool (cls (mi == 0) fs)) ∧ Up w2 w' from fun w2 h => by
         have h1 := Rcloses_walk af fs cf mi w2 h.fdl (by omega)
         rw [HNf.o] at h1
         exact h1)
        obtain ⟨bcl, hbcl⟩ := ny (cls (mi == 0) fs)
        rw [hbcl] at HCl HR
        clear hbcl
        have HNv := Ho (show ∀ (cl : Bool) (v : Value), rsV ⟨sn, mi, fs⟩ cl af cf v = .agg #[.int .i64 (sn : Int), .int .i64 mi, .slice af nf cf, v, .bool cl] from fun cl v => rsV_eq HNf.o rfl)
        go_wp2_with fail
        refine (HCl.o w5 HRF5.o).mono ?_
        rintro e w6 ⟨rfl, h9⟩
        have HU6 := Ho (HU5.o.trans h9)
        have HA6 := Ho (HA5.o.up h9)
        have HRF6 := Ho (ow_up HRF5.o h9)
        have HS36 := Ho (Nat.le_trans HS35.o h9.size)
        clear HCl
        clear h9
        dsimp only
        have HB6 := Ho (at_new w6 73 z5)
        have HUb6 := Ho ((Up.refl w6).alloc (.cells z5.toArray 73))
        obtain ⟨Br, hBr⟩ := ny w6.heap.size
        rw [hBr] at HB6
        go_wp2_with (with_reducible refine sS 73 ?_)
        show wpList _ _ _ _ _ _
        refine wpList_store_at rfl 73 _ _ rfl Br HB6.o [.int .i64 (sn : Int), .int .i64 mi, .slice af nf cf, .slice none 0 0, .bool bcl] rfl rfl rfl (by kernel_rfl) (by kernel_rfl) ?_
        intro w7 hA7 hg7
        have HB7 := Ho hA7
        have HU67 := Ho (HUb6.o.bz hg7)
        have HU7 := Ho (HU6.o.trans HU67.o)
        have HA7 := Ho (HA6.o.up HU67.o)
        have HRF7 := Ho (ow_up HRF6.o HU67.o)
        have hwB : w.heap.size < Br := by rw [← hBr]; exact lt_of_at HA6.o
        have hw3B : w3.heap.size ≤ Br := by rw [← hBr]; exact HS36.o
        clear hA7 hg7 HB6 HUb6
        simp only [Act.put]
        have HBa := Ho (Rbare2_walk (sn : Int) w7)
        go_wp2_with fail
        refine HBa.o.mono ?_
        rintro e w9 ⟨rfl, h9⟩
        obtain rfl := h9.symm
        clear h9 HBa
        dsimp only
        cases hbd : bdl (sn : Int) with
        | true =>
         have HE := Ho (show rv = .ok ((⟨sn, mi, fs⟩, bcl, []), k) by rw [← HR.o, if_pos hbd])
         have HVal := Ho (show (.tuple #[rsV ⟨sn, mi, fs⟩ bcl af cf (.slice none 0 0), .int .i64 (k : Int), .int .i64 0] : Value) = .tuple #[.agg #[.int .i64 (sn : Int), .int .i64 mi, .slice af nf cf, .slice none 0 0, .bool bcl], .int .i64 (k : Int), .int .i64 0] by rw [HNv.o])
         clear hbd
         go_wp2_with (with_reducible refine sL 73 ?_)
         show wpList _ _ _ _ _ _
         refine wpList_load_mid rfl _ _ rfl Br 0 rfl [.int .i64 (sn : Int), .int .i64 mi, .slice af nf cf, .slice none 0 0, .bool bcl] _ HB7.o.range Tryz.underlying73 rfl (by kernel_rfl) ?_
         simp only [Act.put, pB, pC, pD]
         go_wp2_with (with_reducible refine sS 73 ?_)
         show wpList _ _ _ _ _ _
         refine wpList_store_at rfl 73 _ _ rfl (w.heap.size) HA7.o [.int .i64 (sn : Int), .int .i64 mi, .slice af nf cf, .slice none 0 0, .bool bcl] rfl rfl rfl (by kernel_rfl) (by kernel_rfl) ?_
         intro w8 hA8 hg8
         have HA8 := Ho hA8
         have HU8 := Ho (HU7.o.bz hg8)
         have HRF8 := Ho (show RfO w8 w.heap.size af fs cf from ow_base (RfO.grow HRF7.o hg8 (lt_of_at HA3.o)) (Nat.le_of_lt (lt_of_at HA3.o)))
         have HSb8 := Ho (sb_nil' w8)
         clear hA8 hg8
         simp only [Act.put]
         repeat go_step
         refine bodyPost_ret (result_cell_tmp2 Tryz.results31 _ _ (w.heap.size) [.int .i64 (sn : Int), .int .i64 mi, .slice af nf cf, .slice none 0 0, .bool bcl] _ _ rfl rfl rfl HA8.o.range Tryz.underlying73 rfl (by kernel_rfl)) rfl ?_
         rw [HE.o]
         refine ⟨⟨af, cf, .slice none 0 0, ?_, Ho ⟨HRF8.o, HSb8.o⟩⟩, HU8.o⟩
         exact (congrArg Ending.returned HVal.o).symm
        | false =>
         rw [if_neg (by rw [hbd]; simp)] at HR
         clear hbd
         go_wp2_with fail
         refine (HLe.o w7 HRF7.o).mono ?_
         rintro e w10 ⟨rfl, h9⟩
         have HU10 := Ho (HU7.o.trans h9)
         have HA10 := Ho (HA7.o.up h9)
         have HB10 := Ho (HB7.o.up h9)
         have HRF10 := Ho (ow_up HRF7.o h9)
         clear HLe
         clear h9
         cases hln : rln fs mi with
         | error q =>
          rw [hln] at HR
          have HE := Ho (show rv = .error q from HR.o.symm)
          rcases rln_er hln with rfl | rfl
          case' _ =>
           rw [show lnR (.error 5) = .tuple #[.int .i64 0, .int .i64 143] from rfl]
          rotate_left
          case' _ =>
           rw [show lnR (.error 7) = .tuple #[.int .i64 0, .int .i64 145] from rfl]
          all_goals
           clear hln
           go_wp2_with (with_reducible refine sS 73 ?_)
           show wpList _ _ _ _ _ _
           refine wpList_store_at rfl 73 _ _ rfl (w.heap.size) HA10.o z5 rfl rfl rfl (by kernel_rfl) (by kernel_rfl) ?_
           intro w8 hA8 hg8
           have HA8 := Ho hA8
           have HU8 := Ho (HU10.o.bz hg8)
           clear hA8 hg8
           simp only [Act.put]
           repeat go_step
           refine bodyPost_ret (result_cell_tmp2 Tryz.results31 _ _ (w.heap.size) z5 _ _ rfl rfl rfl HA8.o.range Tryz.underlying73 rfl (by kernel_rfl)) rfl ?_
           rw [HE.o]
           exact ⟨rfl, HU8.o⟩
         | ok nn =>
          rw [hln] at HR
          dsimp only at HR
          rw [show lnR (.ok nn) = .tuple #[.int .i64 nn, .int .i64 0] from rfl]
          have hkz : (k : Int) ≤ (s.size : Int) := by rw [HZ.o]; omega
          obtain ⟨Y, hY⟩ := ny (s.extract k s.size : ByteArray)
          have HYl := Ho (show Y.data.toList = ds.drop k by rw [← hY, extr_drop, HL.o])
          have hYz : Y.size ≤ s.size := by rw [← hY, ByteArray.size_extract]; omega
          have hAx : w.heap.size < w10.heap.size := lt_of_at HA10.o
          have hBx : Br < w10.heap.size := lt_of_at HB10.o
          by_cases hnn : nn = -1
          · subst hnn
            rw [if_pos rfl] at HR
            clear hln
            obtain ⟨m, hm⟩ := ny ((ds.drop k).length)
            have hmz : s.size - k = m := by rw [← hm, List.length_drop, HZ.o]
            rw [hm] at HR
            have hmi2 : (s.size : Int) - (k : Int) = (m : Int) := by omega
            have k4 := HB10.o.cell (i := 4) rfl
            have f4 := HB10.o.thaw 4
            have G11 := grown_set2 w10 Br 4 (.bool true)
            obtain ⟨w11, hw11⟩ := ny (w10.setCell ⟨Br, 4, none⟩ (.bool true))
            rw [hw11] at G11
            have HB11 := Ho (show At w11 Br 73 [.int .i64 (sn : Int), .int .i64 mi, .slice af nf cf, .slice none 0 0, .bool true] by rw [← hw11]; exact HB10.o.set 4 (.bool true))
            have HU11 := Ho (HU10.o.bz G11)
            have HA11 := Ho (HA10.o.by G11 (fun e => by have := Option.some.inj e; omega))
            have HRF11 := Ho (show RfO w11 w3.heap.size af fs cf from World.ownsRow.kept HRF10.o G11 (.inr (own_ne HRF10.o HB10.o (by decide))))
            have hs11 : w10.heap.size ≤ w11.heap.size := G11.size
            clear G11
            by_cases hbig : 1048576 < m
            · have hbz : (1048576 : Int) < (m : Int) := by omega
              have HE := Ho (show rv = .error 7 by rw [← HR.o, if_pos hbig])
              go_wp2_with (with_reducible refine sS 73 ?_)
              show wpList _ _ _ _ _ _
              refine wpList_store_at rfl 73 _ _ rfl (w.heap.size) HA11.o z5 rfl rfl rfl (by kernel_rfl) (by kernel_rfl) ?_
              intro w8 hA8 hg8
              have HA8 := Ho hA8
              have HU8 := Ho (HU11.o.bz hg8)
              clear hA8 hg8
              simp only [Act.put]
              repeat go_step
              refine bodyPost_ret (result_cell_tmp2 Tryz.results31 _ _ (w.heap.size) z5 _ _ rfl rfl rfl HA8.o.range Tryz.underlying73 rfl (by kernel_rfl)) rfl ?_
              rw [HE.o]
              exact ⟨rfl, HU8.o⟩
            have hbz : ¬ (1048576 : Int) < (m : Int) := by omega
            rw [if_neg hbig] at HR
            have HBo := Ho (show ∀ w, Calls Tryz.prog 78 #[.string Y, .int .i64 (m : Int)] w fun e w' => BoR w w' e (.ok (ds.drop k, m)) ∧ Up w w' from fun w => by
             have h := Rbody_some Y m (by omega) w
             rw [HYl.o] at h
             have e2 : bdy (m : Int) (ds.drop k) = .ok (ds.drop k, m) := by
              unfold bdy
              rw [if_neg (by omega), Int.toNat_natCast, if_neg (by omega), List.take_of_length_le (by omega)]
             rw [e2] at h
             exact h)
            go_wp2_with fail
            refine (HBo.o w11).mono ?_
            rintro e w12 ⟨hB12, h9⟩
            have HU12 := Ho (HU11.o.trans h9)
            have HA12 := Ho (HA11.o.up h9)
            have HB12 := Ho (HB11.o.up h9)
            have HRF12 := Ho (ow_up HRF11.o h9)
            have HS12 := Ho h9.size
            clear HBo
            clear h9
            obtain ⟨vb2, rfl, hSb⟩ := hB12
            obtain ⟨bl, hbl⟩ := ny (ds.drop k)
            rw [hbl] at HR hSb
            have HE := Ho (show rv = .ok ((⟨sn, mi, fs⟩, true, bl), k + m) from HR.o.symm)
            have hfrom : w10.heap.size ≤ w11.heap.size := hs11
            clear hbl hm
            have HSb12 := Ho hSb.o.1
            have HFv := Ho hSb.o.2
            clear hSb
            obtain ⟨aB, nB, cB, rfl⟩ := HSb12.o.shape
            dsimp only
            have HVal := Ho (show (.tuple #[rsV ⟨sn, mi, fs⟩ true af cf (.slice aB nB cB), .int .i64 ((k + m : Nat) : Int), .int .i64 0] : Value) = .tuple #[.agg #[.int .i64 (sn : Int), .int .i64 mi, .slice af nf cf, .slice aB nB cB, .bool true], .int .i64 ((k : Int) + (m : Int)), .int .i64 0] by rw [HNv.o, Int.natCast_add])
            have hwk : IntKind.i64.wrap ((k : Int) + (m : Int)) = (k : Int) + (m : Int) := wrapk _ (by omega) (by omega)
            have k3 := HB12.o.cell (i := 3) rfl
            have f3 := HB12.o.thaw 3
            have G13 := grown_set2 w12 Br 3 (.slice aB nB cB)
            obtain ⟨w13, hw13⟩ := ny (w12.setCell ⟨Br, 3, none⟩ (.slice aB nB cB))
            rw [hw13] at G13
            have HB13 := Ho (show At w13 Br 73 [.int .i64 (sn : Int), .int .i64 mi, .slice af nf cf, .slice aB nB cB, .bool true] by rw [← hw13]; exact HB12.o.set 3 (.slice aB nB cB))
            have HU13 := Ho (HU12.o.bz G13)
            have HA13 := Ho (HA12.o.by G13 (fun e => by have := Option.some.inj e; omega))
            have HRF13 := Ho (show RfO w13 w3.heap.size af fs cf from World.ownsRow.kept HRF12.o G13 (.inr (own_ne HRF12.o HB12.o (by decide))))
            have HSb13 := Ho (HSb12.o.kept G13 (.inr (fun e => by have h1 := HFv.o _ e; omega)))
            have hvb : (Value.slice aB nB cB).ownBlock = none ∨ (Value.slice aB nB cB).ownBlock ≠ some w.heap.size := .inr (fun e => by have h1 := HFv.o _ e; omega)
            clear G13
            go_wp2_with (with_reducible refine sL 73 ?_)
            show wpList _ _ _ _ _ _
            refine wpList_load_mid rfl _ _ rfl Br 0 rfl [.int .i64 (sn : Int), .int .i64 mi, .slice af nf cf, .slice aB nB cB, .bool true] _ HB13.o.range Tryz.underlying73 rfl (by kernel_rfl) ?_
            simp only [Act.put, pB, pC, pD]
            go_wp2_with (with_reducible refine sS 73 ?_)
            show wpList _ _ _ _ _ _
            refine wpList_store_at rfl 73 _ _ rfl (w.heap.size) HA13.o [.int .i64 (sn : Int), .int .i64 mi, .slice af nf cf, .slice aB nB cB, .bool true] rfl rfl rfl (by kernel_rfl) (by kernel_rfl) ?_
            intro w8 hA8 hg8
            have HA8 := Ho hA8
            have HU8 := Ho (HU13.o.bz hg8)
            have HRF8 := Ho (show RfO w8 w.heap.size af fs cf from ow_base (RfO.grow HRF13.o hg8 (lt_of_at HA3.o)) (Nat.le_of_lt (lt_of_at HA3.o)))
            have HSb8 := Ho (HSb13.o.kept hg8 hvb)
            clear hA8 hg8
            simp only [Act.put]
            repeat go_step
            refine bodyPost_ret (result_cell_tmp2 Tryz.results31 _ _ (w.heap.size) [.int .i64 (sn : Int), .int .i64 mi, .slice af nf cf, .slice aB nB cB, .bool true] _ _ rfl rfl rfl HA8.o.range Tryz.underlying73 rfl (by kernel_rfl)) rfl ?_
            rw [HE.o]
            refine ⟨⟨af, cf, .slice aB nB cB, ?_, Ho ⟨HRF8.o, HSb8.o⟩⟩, HU8.o⟩
            exact (congrArg Ending.returned HVal.o).symm
          have hnnz : (nn == -1) = false := by rw [beq_eq_false_iff_ne]; exact hnn
          rw [if_neg hnn] at HR
          have HBo := Ho (show ∀ w, Calls Tryz.prog 78 #[.string Y, .int .i64 nn] w fun e w' => BoR w w' e (bdy nn (ds.drop k)) ∧ Up w w' from fun w => by
           rcases rln_ok hln with rfl | rfl | ⟨h0, h1⟩
           · have h := Rbody_chunks Y (by omega) w
             rw [HYl.o] at h
             exact h
           · exact absurd rfl hnn
           obtain ⟨j, rfl⟩ := Int.eq_ofNat_of_zero_le h0
           have h := Rbody_some Y j (by omega) w
           rw [HYl.o] at h
           exact h)
          have HBl2 := Ho (fun b j h => bdy_len (n := nn) (l := ds.drop k) (b := b) (j := j) h)
          have HBy := Ho (fun q h => bdy_er (n := nn) (l := ds.drop k) (k := q) h)
          generalize bdy nn (ds.drop k) = by2 at *
          clear hln hnn
          go_wp2_with fail
          refine (HBo.o w10).mono ?_
          rintro e w12 ⟨hB12, h9⟩
          have HU12 := Ho (HU10.o.trans h9)
          have HA12 := Ho (HA10.o.up h9)
          have HB12 := Ho (HB10.o.up h9)
          have HRF12 := Ho (ow_up HRF10.o h9)
          have HS12 := Ho h9.size
          clear HBo
          clear h9
          cases hby : by2 with
          | error q =>
           rw [hby] at hB12 HR
           have HE := Ho (show rv = .error q from HR.o.symm)
           obtain rfl : e = _ := hB12
           have hne := numK_ne (HBy.o q hby)
           obtain ⟨nq, hnq⟩ := ny (numK q)
           have HQ := Ho hnq
           rw [hnq] at hne
           dsimp only
           rw [hnq]
           clear hnq hby
           go_wp2_with (with_reducible refine sS 73 ?_)
           show wpList _ _ _ _ _ _
           refine wpList_store_at rfl 73 _ _ rfl (w.heap.size) HA12.o z5 rfl rfl rfl (by kernel_rfl) (by kernel_rfl) ?_
           intro w8 hA8 hg8
           have HA8 := Ho hA8
           have HU8 := Ho (HU12.o.bz hg8)
           clear hA8 hg8
           simp only [Act.put]
           repeat go_step
           refine bodyPost_ret (result_cell_tmp2 Tryz.results31 _ _ (w.heap.size) z5 _ _ rfl rfl rfl HA8.o.range Tryz.underlying73 rfl (by kernel_rfl)) rfl ?_
           rw [HE.o]
           refine ⟨?_, HU8.o⟩
           show Ending.returned _ = Ending.returned _
           rw [HQ.o]
           rfl
          | ok p =>
           obtain ⟨bl, m⟩ := p
           rw [hby] at hB12 HR
           obtain ⟨vb2, rfl, hSb⟩ := hB12
           have HJz := Ho (HBl2.o bl m hby)
           rw [List.length_drop, ← HZ.o] at HJz
           have HE := Ho (show rv = .ok ((⟨sn, mi, fs⟩, bcl, bl), k + m) from HR.o.symm)
           have hfrom : w10.heap.size ≤ w10.heap.size := Nat.le_refl _
           have hmz : m ≤ s.size := by have := HJz.o; omega
           clear hby
           have HSb12 := Ho hSb.o.1
           have HFv := Ho hSb.o.2
           clear hSb
           obtain ⟨aB, nB, cB, rfl⟩ := HSb12.o.shape
           dsimp only
           have HVal := Ho (show (.tuple #[rsV ⟨sn, mi, fs⟩ bcl af cf (.slice aB nB cB), .int .i64 ((k + m : Nat) : Int), .int .i64 0] : Value) = .tuple #[.agg #[.int .i64 (sn : Int), .int .i64 mi, .slice af nf cf, .slice aB nB cB, .bool bcl], .int .i64 ((k : Int) + (m : Int)), .int .i64 0] by rw [HNv.o, Int.natCast_add])
           have hwk : IntKind.i64.wrap ((k : Int) + (m : Int)) = (k : Int) + (m : Int) := wrapk _ (by omega) (by omega)
           have k3 := HB12.o.cell (i := 3) rfl
           have f3 := HB12.o.thaw 3
           have G13 := grown_set2 w12 Br 3 (.slice aB nB cB)
           obtain ⟨w13, hw13⟩ := ny (w12.setCell ⟨Br, 3, none⟩ (.slice aB nB cB))
           rw [hw13] at G13
           have HB13 := Ho (show At w13 Br 73 [.int .i64 (sn : Int), .int .i64 mi, .slice af nf cf, .slice aB nB cB, .bool bcl] by rw [← hw13]; exact HB12.o.set 3 (.slice aB nB cB))
           have HU13 := Ho (HU12.o.bz G13)
           have HA13 := Ho (HA12.o.by G13 (fun e => by have := Option.some.inj e; omega))
           have HRF13 := Ho (show RfO w13 w3.heap.size af fs cf from World.ownsRow.kept HRF12.o G13 (.inr (own_ne HRF12.o HB12.o (by decide))))
           have HSb13 := Ho (HSb12.o.kept G13 (.inr (fun e => by have h1 := HFv.o _ e; omega)))
           have hvb : (Value.slice aB nB cB).ownBlock = none ∨ (Value.slice aB nB cB).ownBlock ≠ some w.heap.size := .inr (fun e => by have h1 := HFv.o _ e; omega)
           clear G13
           go_wp2_with (with_reducible refine sL 73 ?_)
           show wpList _ _ _ _ _ _
           refine wpList_load_mid rfl _ _ rfl Br 0 rfl [.int .i64 (sn : Int), .int .i64 mi, .slice af nf cf, .slice aB nB cB, .bool bcl] _ HB13.o.range Tryz.underlying73 rfl (by kernel_rfl) ?_
           simp only [Act.put, pB, pC, pD]
           go_wp2_with (with_reducible refine sS 73 ?_)
           show wpList _ _ _ _ _ _
           refine wpList_store_at rfl 73 _ _ rfl (w.heap.size) HA13.o [.int .i64 (sn : Int), .int .i64 mi, .slice af nf cf, .slice aB nB cB, .bool bcl] rfl rfl rfl (by kernel_rfl) (by kernel_rfl) ?_
           intro w8 hA8 hg8
           have HA8 := Ho hA8
           have HU8 := Ho (HU13.o.bz hg8)
           have HRF8 := Ho (show RfO w8 w.heap.size af fs cf from ow_base (RfO.grow HRF13.o hg8 (lt_of_at HA3.o)) (Nat.le_of_lt (lt_of_at HA3.o)))
           have HSb8 := Ho (HSb13.o.kept hg8 hvb)
           clear hA8 hg8
           simp only [Act.put]
           repeat go_step
           refine bodyPost_ret (result_cell_tmp2 Tryz.results31 _ _ (w.heap.size) [.int .i64 (sn : Int), .int .i64 mi, .slice af nf cf, .slice aB nB cB, .bool bcl] _ _ rfl rfl rfl HA8.o.range Tryz.underlying73 rfl (by kernel_rfl)) rfl ?_
           rw [HE.o]
           refine ⟨⟨af, cf, .slice aB nB cB, ?_, Ho ⟨HRF8.o, HSb8.o⟩⟩, HU8.o⟩
           exact (congrArg Ending.returned HVal.o).symm
     have hmiz : (1 : Int) < mi := by omega
     have HE := Ho (show rv = .error 4 by rw [← HR.o, HRq.o, if_pos (fun h => hmi h.2)])
    rotate_left
    case' _ =>
     have hmjz : (mj != 1) = true := by rw [bne_iff_ne]; exact hmj
     have HE := Ho (show rv = .error 4 by rw [← HR.o, HRq.o, if_pos (fun h => hmj h.1)])
     clear hmj
    all_goals
     go_wp2_with (with_reducible refine sS 73 ?_)
     show wpList _ _ _ _ _ _
     refine wpList_store_at rfl 73 _ _ rfl (w.heap.size) HA3.o z5 rfl rfl rfl (by kernel_rfl) (by kernel_rfl) ?_
     intro w8 hA8 hg8
     have HA8 := Ho hA8
     have HU8 := Ho (HU3.o.bz hg8)
     clear hA8 hg8
     simp only [Act.put]
     repeat go_step
     refine bodyPost_ret (result_cell_tmp2 Tryz.results31 _ _ (w.heap.size) z5 _ _ rfl rfl rfl HA8.o.range Tryz.underlying73 rfl (by kernel_rfl)) rfl ?_
     rw [HE.o]
     exact ⟨rfl, HU8.o⟩
set_option maxRecDepth 100000 in
set_option maxHeartbeats 2000000 in
theorem sameRes_same (st mi : Int) (fs : List FD) (nf : Nat) (cl : Bool) (a1 a2 : Option Addr) (c1' c2' : Nat) (v1 v2 : Value) (b : List UInt8) (hnf : fs.length = nf) (hl : nf ≤ 1048576) (w : World) (h1 : FdL w a1 fs c1') (h2 : FdL w a2 fs c2') (s1 : Sb w v1 b) (s2 : Sb w v2 b) :
  Calls Tryz.prog 33 #[.agg #[.int .i64 st, .int .i64 mi, .slice a1 nf c1', v1, .bool cl], .agg #[.int .i64 st, .int .i64 mi, .slice a2 nf c2', v2, .bool cl]] w fun e w' => e = .returned (.bool true) ∧ Up w w' := by
 obtain ⟨aB, nB, cB, rfl⟩ := Sb.shape s1
 obtain ⟨aC, nC, cC, rfl⟩ := Sb.shape s2
 have HNf := Ho hnf
 clear hnf
 obtain ⟨w1, hw1⟩ := ny ((w.alloc (.cells [.int .i64 st, .int .i64 mi, .slice a1 nf c1', .slice aB nB cB, .bool cl].toArray 77)).alloc (.cells [.int .i64 st, .int .i64 mi, .slice a2 nf c2', .slice aC nC cC, .bool cl].toArray 73))
 have HU := Ho (show Up w w1 by rw [← hw1]; exact ((Up.refl w).alloc _).alloc _)
 have A1 : At w1 w.heap.size 77 [.int .i64 st, .int .i64 mi, .slice a1 nf c1', .slice aB nB cB, .bool cl] := by
  rw [← hw1]
  exact (at_new w 77 [.int .i64 st, .int .i64 mi, .slice a1 nf c1', .slice aB nB cB, .bool cl]).up ((Up.refl _).alloc _)
 have A2 : At w1 (w.heap.size + 1) 73 [.int .i64 st, .int .i64 mi, .slice a2 nf c2', .slice aC nC cC, .bool cl] := by
  rw [← hw1]
  have := at_new (w.alloc (.cells [.int .i64 st, .int .i64 mi, .slice a1 nf c1', .slice aB nB cB, .bool cl].toArray 77)) 73 [.int .i64 st, .int .i64 mi, .slice a2 nf c2', .slice aC nC cC, .bool cl]
  rw [alloc_size] at this
  exact this
 have HA1 := Ho A1
 have HA2 := Ho A2
 have HAl := Ho (sameFields_same a1 a2 fs c1' c2' nf HNf.o hl w1 (h1.up HU.o) (h2.up HU.o))
 have HS1 := Ho s1
 have HS2 := Ho s2
 go_enter Tryz.func33, Tryz.ntmps33
 go_wp2_with (with_reducible refine sF 77 ?_)
 show wpList _ _ _ _ _ _
 clear hw1 s1 s2 h1 h2
 have p0 : w1.cell? ⟨w.heap.size, 0, none⟩ = _ := A1.cell (i := 0) rfl
 have p1 : w1.cell? ⟨w.heap.size, 1, none⟩ = _ := A1.cell (i := 1) rfl
 have p2 : w1.cell? ⟨w.heap.size, 2, none⟩ = _ := A1.cell (i := 2) rfl
 have p5 : w1.cell? ⟨w.heap.size, 4, none⟩ = _ := A1.cell (i := 4) rfl
 have q0 : w1.cell? ⟨w.heap.size + 1, 0, none⟩ = _ := A2.cell (i := 0) rfl
 have q1 : w1.cell? ⟨w.heap.size + 1, 1, none⟩ = _ := A2.cell (i := 1) rfl
 have q2 : w1.cell? ⟨w.heap.size + 1, 2, none⟩ = _ := A2.cell (i := 2) rfl
 have q5 : w1.cell? ⟨w.heap.size + 1, 4, none⟩ = _ := A2.cell (i := 4) rfl
 clear A1 A2
 have e1 : (st != st) = false := by simp
 have e3 : (mi != mi) = false := by simp
 have e4 : (cl != cl) = false := by simp
 go_wp2_with fail
 refine HAl.o.mono ?_
 rintro e w2 ⟨rfl, u2⟩
 have HU2 := Ho (HU.o.trans u2)
 have p4 : w2.cell? ⟨w.heap.size, 3, none⟩ = some (.slice aB nB cB) := (HA1.o.up u2).cell (i := 3) rfl
 have q4 : w2.cell? ⟨w.heap.size + 1, 3, none⟩ = some (.slice aC nC cC) := (HA2.o.up u2).cell (i := 3) rfl
 have cv1 := conv_sb2 (HS1.o.up HU2.o)
 have cv2 := conv_sb2 (HS2.o.up HU2.o)
 clear u2 p0 p1 p2 p5 q0 q1 q2 q5
 dsimp only
 obtain ⟨B, hB⟩ := ny (⟨b.toArray⟩ : ByteArray)
 rw [hB] at cv1 cv2
 have e5 : (B.toList == B.toList) = true := beq_self_eq_true _
 go_wp2
 go_ret
 exact ⟨rfl, HU2.o⟩
theorem RParseResponse_dat {a : Option Addr} {n c : Nat} {ds : List UInt8} (hn40 : n ≤ 1099511627000) (w : World) (hS : Sb w (.slice a n c) ds) : Calls Tryz.prog 31 #[.slice a n c] w fun e w' => (∃ a c v, e = .returned (.tuple #[sV (datS (rsP ds)) a c v, .int .i64 (datS (rsP ds)).n, .int .i64 (datS (rsP ds)).e]) ∧ Hd (FdL w' a (datS (rsP ds)).fs c ∧ Sb w' v (datS (rsP ds)).b)) ∧ Up w w' := by
 refine (RParseResponse_walk hn40 w hS).mono ?_
 rintro e w' ⟨hR, hU⟩
 refine ⟨?_, hU⟩
 cases h : rsP ds with
 | error k =>
  rw [h] at hR
  obtain rfl : e = _ := hR
  exact ⟨none, 0, .slice none 0 0, rfl, Ho ⟨fdl_nil w', sb_nil' w'⟩⟩
 | ok q =>
  obtain ⟨⟨x, cl, b⟩, n'⟩ := q
  rw [h] at hR
  obtain ⟨a', c', v, rfl, hO⟩ := hR
  exact ⟨a', c', v, rfl, Ho ⟨hO.o.1.fdl, hO.o.2⟩⟩
end Go.Proofs.YtehnnlhoajdcaaaGreatDoor
