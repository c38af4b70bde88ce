import Derived.Test.YtfopojnljfpmkaaGreatDoorK1
import Derived.Test.YtfopojnljfpmkaaGreatDoorJCg
import Derived.Test.YtfopojnljfpmkaaGreatDoorRb
namespace Go.Proofs.YtfopojnljfpmkaaGreatDoor
open Go.RowKit Go.Shelf TextNum ModNum
theorem rElm_ne {e : List UInt8} (h : rElm e = true) : e ≠ [] := by
  rintro rfl
  exact absurd h (by decide)
theorem all_takeL {α : Type} {l : List α} {f : α → Bool} {i : Nat} (h : i < l.length) : (l.take (i + 1)).all f = ((l.take i).all f && f l[i]) := by
  rw [List.take_succ_eq_append_getElem h, List.all_append]
  simp
theorem all_noL {α : Type} {l : List α} {f : α → Bool} {i : Nat} (h : i < l.length) (hf : f l[i] = false) : l.all f = false := by
  rw [← List.take_append_drop (i + 1) l, List.all_append, all_takeL h, hf]
  simp
def RMaj (p : List UInt8) (w : World) (e : Ending) (w' : World) : Prop := ∃ m : List UInt8, e = .returned (.tuple #[.string ⟨m.toArray⟩, .bool (maj p).isSome]) ∧ (∀ q, maj p = some q → m = q) ∧ Up w w'
theorem RMaj.of {p m : List UInt8} {b : Bool} {w w' : World} (h : rMaj p = (m, b)) (u : Up w w') : RMaj p w (.returned (.tuple #[.string ⟨m.toArray⟩, .bool b])) w' := by
  have h2 := rMaj_eq p
  rw [h] at h2
  exact ⟨m, by rw [← h2.1], h2.2, u⟩
set_option maxRecDepth 100000 in
set_option maxHeartbeats 2000000 in
theorem Major_walk (s : ByteArray) (w : World) (hT : TK w) : Calls Tryz.prog 65 #[.string s] w (RMaj s.data.toList w) := by
  have HTK := Hid.of hT
  clear hT
  have HR : Hid (rMaj s.data.toList = (if 255 < s.data.toList.length then ([], false)
    else if (pcs 47 s.data.toList).all rElm = false then ([], false)
    else if rFst ((pcs 47 s.data.toList).headD []) = false then ([], false)
    else if (pcs 47 s.data.toList).headD [] = GOPKG then (hsd (tsf UNST ((pcs 47 s.data.toList).getLastD [])), decide (hsd (tsf UNST ((pcs 47 s.data.toList).getLastD [])) ≠ []) && decide (1 < (pcs 47 s.data.toList).length))
    else if 1 < (pcs 47 s.data.toList).length ∧ tld ((pcs 47 s.data.toList).getLastD []) = true then (((pcs 47 s.data.toList).getLastD []).drop 1, isNum (((pcs 47 s.data.toList).getLastD []).drop 1) && !isLow (((pcs 47 s.data.toList).getLastD []).drop 1))
    else ([], true))) := rfl
  rw [len_of] at HR
  by_cases h255 : 255 < s.size
  · have hz : (255 : Int) < (s.size : Int) := by omega
    have HE := Hid.of (show rMaj s.data.toList = ([], false) by rw [HR.out, if_pos h255])
    clear HR h255
    go_enter Tryz.func65, Tryz.ntmps65
    go_wp2
    go_ret2
    exact RMaj.of HE.out (Up.refl _)
  have hz : ¬ (255 : Int) < (s.size : Int) := by omega
  have hs : s.size ≤ 1048576 := by omega
  have HP := Hid.of (Pieces_walk s 47 hs w)
  rw [show ((47 : UInt8).toNat : Int) = 47 from rfl] at HP
  rw [if_neg h255] at HR
  clear h255
  go_enter Tryz.func65, Tryz.ntmps65
  go_wp2_with fail
  refine HP.out.mono ?_
  clear HP
  rintro e w1 ⟨v, rfl, h1, u1⟩
  have HS := Hid.of h1.sl
  have hb : ∀ x ∈ pcs 47 s.data.toList, x.length ≤ 1048576 := fun x hx => by
    have : x.length ≤ s.data.toList.length := pcs_sub (c := 47) hx
    rw [len_of] at this
    omega
  obtain ⟨b, off, cc, rfl, hpos, hcc, ⟨fs, hfs, hcf⟩, la, hla, hcl⟩ := h1.sl.ends (pcs_ne 47 s.data.toList)
  have hnb : (pcs 47 s.data.toList).length ≤ 1048577 := by
    have := pcs_cnt 47 s.data.toList
    rw [len_of] at this
    omega
  have H1 := Hid.of u1
  have hfm : fs.data.toList ∈ pcs 47 s.data.toList := by
    rw [hfs]
    cases h : pcs 47 s.data.toList with
    | nil => exact absurd h (pcs_ne _ _)
    | cons x r => simp
  have hlm : la.data.toList ∈ pcs 47 s.data.toList := by
    rw [hla]
    cases h : pcs 47 s.data.toList with
    | nil => exact absurd h (pcs_ne _ _)
    | cons x r => rw [List.getLastD_eq_getLast?, List.getLast?_eq_some_getLast (by simp)]; exact List.getLast_mem _
  have hfz : fs.size ≤ 1048576 := by rw [← len_of]; exact hb _ hfm
  have hlas : la.size ≤ 1048576 := by rw [← len_of]; exact hb _ hlm
  have HM := Hid.of (And.intro hfm (And.intro hlm hb))
  rw [← hfs, ← hla] at HR
  clear h1 u1 hfs hla hfm hlm hb
  generalize pcs 47 s.data.toList = es at *
  generalize hnn : es.length = n at *
  have HN := Hid.of hnn
  clear hnn
  have hlz : (n : Int) - 1 = ((n - 1 : Nat) : Int) := by omega
  have hnz : ((n - 1 : Nat) : Int) < (n : Int) := by omega
  have hccz : (n : Int) ≤ (cc : Int) := by omega
  have h0z : (0 : Int) < (n : Int) := by omega
  dsimp only
  go_wp2
  go_loopw [5] (fun v5 wr => ∃ i : Nat, v5 = .int .i64 (i : Int) ∧ i ≤ n ∧ Hid ((es.take i).all rElm = true ∧ Up w1 wr)) (fun v5 _ => n - (intOf v5).toNat)
  case atStart => exact ⟨0, rfl, by omega, rfl, Up.refl _⟩
  case round =>
    obtain ⟨i, rfl, hi, hI⟩ := hrel
    by_cases hlt : i < n
    · have hltz : (i : Int) < (n : Int) := by omega
      have hil : i < es.length := by rw [HN.out]; exact hlt
      obtain ⟨b', off', e', hc'⟩ := HS.out.get hil
      injection e' with e'
      injection e' with e1 e2
      subst e1 e2
      have hci := hI.out.2.cell hc'
      have HT := Hid.of (And.intro (all_takeL (f := rElm) hil) (fun h => all_noL (f := rElm) hil h))
      have hxl := HM.out.2.2 es[i] (List.getElem_mem hil)
      obtain ⟨x, hx1, hx2⟩ := ba_ex es[i]
      rw [hx2] at hci
      rw [← hx1] at HT hxl
      have HE := Hid.of (element_walk x (by rw [← len_of]; exact hxl) wr (HTK.out.up (H1.out.trans hI.out.2)))
      clear hx1 hx2 hc' hxl
      go_wp2_with fail
      refine HE.out.mono ?_
      rintro e w2 ⟨rfl, u2⟩
      have H2 := Hid.of (hI.out.2.trans u2)
      clear u2 HE
      dsimp only
      cases hx : rElm x.data.toList with
      | false =>
        have HF := Hid.of (show rMaj s.data.toList = ([], false) by rw [HR.out, if_pos (HT.out.2 hx)])
        clear hx HT
        go_wp2
        go_ret2
        exact RMaj.of HF.out (H1.out.trans H2.out)
      | true =>
        have HF := Hid.of (show (es.take (i + 1)).all rElm = true by rw [HT.out.1, hI.out.1, hx]; rfl)
        clear hx HT
        go_wp2
        go_roundw
        case rel => exact ⟨i + 1, by go_num, by omega, HF.out, H2.out⟩
        case measure => simp [intOf]; omega
    · have hltz : ¬ (i : Int) < (n : Int) := by omega
      have HA := Hid.of (show es.all rElm = true by
        have := hI.out.1
        rwa [List.take_of_length_le (by rw [HN.out]; omega)] at this)
      have hf0 : 0 < fs.size := by
        have := rElm_ne (List.all_eq_true.1 HA.out _ HM.out.1)
        rw [← len_of]
        exact List.length_pos_iff.2 this
      have hl0 : 0 < la.size := by
        have := rElm_ne (List.all_eq_true.1 HA.out _ HM.out.2.1)
        rw [← len_of]
        exact List.length_pos_iff.2 this
      rw [HA.out, if_neg (by decide)] at HR
      have hcf2 := hI.out.2.cell hcf
      have hcl2 := hI.out.2.cell hcl
      have HU := Hid.of (H1.out.trans hI.out.2)
      have HFst := Hid.of (first_walk fs hfz hf0 wr)
      clear hlt hcf hcl hI
      go_wp2_with fail
      refine HFst.out.mono ?_
      rintro e w2 ⟨rfl, u2⟩
      have H2 := Hid.of (HU.out.trans u2)
      have hcf3 := u2.cell hcf2
      have hcl3 := u2.cell hcl2
      clear u2 HFst hcf2 hcl2 HU
      dsimp only
      cases hx : rFst fs.data.toList with
      | false =>
        have HF := Hid.of (show rMaj s.data.toList = ([], false) by rw [HR.out, if_pos hx])
        clear hx
        go_wp2
        go_ret2
        exact RMaj.of HF.out H2.out
      | true =>
        rw [hx, if_neg (by decide)] at HR
        clear hx
        by_cases hg : fs.data.toList = GOPKG
        · have hgb : (fs.toList == [103, 111, 112, 107, 103, 46, 105, 110]) = true := by rw [Go.Lib.toList_data, hg]; rfl
          rw [if_pos hg] at HR
          have HH := Hid.of (hosted_walk la hlas w2)
          obtain ⟨m, hm1, hm2⟩ := ba_ex (hsd (tsf UNST la.data.toList))
          rw [hm2] at HH
          rw [← hm1] at HR
          have hme := emp_of m
          have HMT := Hid.of (show decide (m.data.toList ≠ []) = !m.toList.isEmpty by
            rw [hme]
            cases m.data.toList <;> simp)
          rw [HMT.out] at HR
          have hmm : (⟨m.data.toList.toArray⟩ : ByteArray) = m := rfl
          have HMM := Hid.of hmm
          clear hg hm1 hm2 hme hmm
          go_wp2_with fail
          refine (HH.out).mono ?_
          rintro e w3 ⟨rfl, u3⟩
          have H3 := Hid.of (H2.out.trans u3)
          have Hu3 := Hid.of u3
          clear u3
          dsimp only
          cases hem : m.toList.isEmpty with
          | true =>
            rw [hem] at HR
            go_wp2
            go_ret2
            exact RMaj.of HR.out H3.out
          | false =>
            rw [hem] at HR
            by_cases h1n : 1 < n
            · have h1z : (1 : Int) < (n : Int) := by omega
              rw [decide_eq_true h1n] at HR
              clear h1n
              go_wp2
              go_ret2
              exact RMaj.of HR.out H3.out
            · have h1z : ¬ (1 : Int) < (n : Int) := by omega
              rw [decide_eq_false h1n] at HR
              clear h1n
              go_wp2
              go_ret2
              exact RMaj.of HR.out H3.out
        · have hgb : (fs.toList == [103, 111, 112, 107, 103, 46, 105, 110]) = false := by rw [Go.Lib.toList_data, beq_eq_false_iff_ne]; exact hg
          rw [if_neg hg] at HR
          clear hg
          by_cases h1n : 1 < n
          · have h1z : (1 : Int) < (n : Int) := by omega
            have HTl := Hid.of (tailed_walk la hlas w2)
            simp only [h1n, true_and] at HR
            clear h1n
            go_wp2_with fail
            refine HTl.out.mono ?_
            rintro e w3 ⟨rfl, u3⟩
            have H3 := Hid.of (H2.out.trans u3)
            clear u3 HTl
            dsimp only
            cases hx : tld la.data.toList with
            | false =>
              rw [hx, if_neg (by decide)] at HR
              clear hx
              go_wp2
              go_ret2
              exact RMaj.of HR.out H3.out
            | true =>
              rw [hx, if_pos rfl] at HR
              clear hx
              have hl1 : (1 : Int) ≤ (la.size : Int) := by omega
              obtain ⟨d, hd1, hd2⟩ := ba_ex (la.data.toList.drop 1)
              have hde : la.extract 1 la.size = d := by
                rw [← hd2, ext_str, List.take_of_length_le (by rw [List.length_drop, len_of]; omega)]
              have hds : d.size ≤ 1048576 := by rw [← len_of, hd1, List.length_drop, len_of]; omega
              rw [← hd1, isLow_eq] at HR
              have HNw := Hid.of (number_walk d hds w3)
              clear hd1 hd2
              go_wp2_with fail
              refine HNw.out.mono ?_
              rintro e w4 ⟨rfl, u4⟩
              have H4 := Hid.of (H3.out.trans u4)
              clear u4 HNw
              dsimp only
              cases hi : isNum d.data.toList with
              | false =>
                rw [hi] at HR
                clear hi
                go_wp2
                go_ret2
                exact RMaj.of HR.out H4.out
              | true =>
                rw [hi] at HR
                clear hi
                cases h48 : (d.toList == [48]) with
                | true =>
                  rw [h48] at HR
                  go_wp2
                  go_ret2
                  exact RMaj.of HR.out H4.out
                | false =>
                  rw [h48] at HR
                  cases h49 : (d.toList == [49]) with
                  | true =>
                    rw [h49] at HR
                    go_wp2
                    go_ret2
                    exact RMaj.of HR.out H4.out
                  | false =>
                    rw [h49] at HR
                    go_wp2
                    go_ret2
                    exact RMaj.of HR.out H4.out
          · have h1z : ¬ (1 : Int) < (n : Int) := by omega
            rw [if_neg (fun h => h1n h.1)] at HR
            clear h1n
            go_wp2
            go_ret2
            exact RMaj.of HR.out H2.out
end Go.Proofs.YtfopojnljfpmkaaGreatDoor
namespace Go.Proofs.YtfopojnljfpmkaaGreatDoor
open Go.RowKit Go.Shelf TextNum ModNum
set_option maxRecDepth 100000 in
theorem RCheckPath_walk (s : ByteArray) (w : World) (hT : TK w) : Calls Tryz.prog 37 #[.string s] w fun e w' => e = .returned (.int .i64 (majE s.data.toList)) ∧ Up w w' := by
  have HM := Hid.of (Major_walk s w hT)
  clear hT
  go_enter Tryz.func37, Tryz.ntmps37
  go_wp2_with fail
  refine HM.out.mono ?_
  rintro e w1 ⟨m, rfl, _, u1⟩
  have H1 := Hid.of u1
  have HB := Hid.of (show majE s.data.toList = if (maj s.data.toList).isSome then 0 else 110 by unfold majE; cases maj s.data.toList <;> rfl)
  clear u1 HM
  generalize (⟨m.toArray⟩ : ByteArray) = ms at *
  dsimp only
  cases hb : (maj s.data.toList).isSome with
  | true =>
    rw [hb] at HB
    clear hb
    go_wp2
    go_ret
    rw [HB.out]
    exact ⟨rfl, H1.out⟩
  | false =>
    rw [hb] at HB
    clear hb
    go_wp2
    go_ret
    rw [HB.out]
    exact ⟨rfl, H1.out⟩
set_option maxRecDepth 100000 in
theorem RCheckVersion_walk (s : ByteArray) (w : World) : Calls Tryz.prog 39 #[.string s] w fun e w' => e = .returned (.int .i64 (verE s.data.toList)) ∧ Up w w' := by
  have HM := Hid.of (SplitR_walk s w)
  go_enter Tryz.func39, Tryz.ntmps39
  go_wp2_with fail
  refine HM.out.mono ?_
  rintro e w1 ⟨n0, n1, n2, v, inc, rfl, _, ⟨a, n, c, rfl⟩, u1⟩
  have H1 := Hid.of u1
  have HB := Hid.of (show verE s.data.toList = if (ver s.data.toList).isSome then 0 else 111 by unfold verE; cases ver s.data.toList <;> rfl)
  clear u1 HM
  dsimp only
  cases hb : (ver s.data.toList).isSome with
  | true =>
    rw [hb] at HB
    clear hb
    go_wp2
    go_ret
    rw [HB.out]
    exact ⟨rfl, H1.out.alloc _⟩
  | false =>
    rw [hb] at HB
    clear hb
    go_wp2
    go_ret
    rw [HB.out]
    exact ⟨rfl, H1.out.alloc _⟩
set_option maxRecDepth 100000 in
set_option maxHeartbeats 1000000 in
theorem Fits_walk (p s : ByteArray) (w : World) (hT : TK w) : Calls Tryz.prog 51 #[.string p, .string s] w fun e w' => e = .returned (.int .i64 (fte p.data.toList s.data.toList)) ∧ Up w w' := by
  have HM := Hid.of (Major_walk p w hT)
  clear hT
  have HR : Hid (fte p.data.toList s.data.toList = match maj p.data.toList with
    | none => 110
    | some m => match ver s.data.toList with
      | none => 111
      | some q => if fit q m then 0 else 111) := rfl
  go_enter Tryz.func51, Tryz.ntmps51
  go_wp2_with fail
  refine HM.out.mono ?_
  rintro e w1 ⟨m, rfl, hm, u1⟩
  have H1 := Hid.of u1
  clear u1 HM
  cases hmj : maj p.data.toList with
  | none =>
    rw [hmj] at HR
    clear hmj hm
    generalize (⟨m.toArray⟩ : ByteArray) = ms at *
    dsimp only [Option.isSome]
    go_wp2
    go_ret
    rw [HR.out]
    exact ⟨rfl, H1.out⟩
  | some q =>
    have hmq := hm q hmj
    subst hmq
    rw [hmj] at HR
    clear hmj hm
    obtain ⟨ms, hm1, hm2⟩ := ba_ex m
    rw [hm2]
    have HS := Hid.of (SplitR_walk s w1)
    clear hm2
    dsimp only [Option.isSome]
    go_wp2_with fail
    refine HS.out.mono ?_
    rintro e w2 ⟨n0, n1, n2, v, inc, rfl, hq, ⟨a, n, c, rfl⟩, u2⟩
    have H2 := Hid.of (H1.out.trans u2)
    clear u2 HS
    obtain ⟨ns, hn1, hn2⟩ := ba_ex n0
    have HQ := Hid.of hq
    clear hq
    dsimp only
    go_wp2_with (with_reducible show wpList _ _ _ ({ dst := _, op := Op.store 111 _ _, type := _, pos := _, after := _, guard := _ } :: _) _ _; refine Shut.out ?_)
    show wpList _ _ _ _ _ _
    refine wpList_store_at rfl _ _ _ rfl w2.heap.size (at_new w2 111 z5) [.string ⟨n0.toArray⟩, .string ⟨n1.toArray⟩, .string ⟨n2.toArray⟩, .slice a n c, .bool inc] rfl rfl rfl (by kernel_rfl) (one5 _ _ _ _ _ _ _) fun wz hAz hgz => ?_
    have HUz := Hid.of ((H2.out.alloc (.cells z5.toArray 111)).by hgz (fun g hg => by injection hg with hg; have := H2.out.size; omega))
    have k0 := hAz.cell (i := 0) rfl
    have k4 := hAz.cell (i := 4) rfl
    rw [hn2] at k0 hAz
    generalize hb : w2.heap.size = bb at *
    clear hb hgz
    simp only [Act.put]
    cases hv : ver s.data.toList with
    | none =>
      rw [hv] at HR
      clear hv hm1 hn1 hn2
      dsimp only [Option.isSome]
      go_wp2
      go_ret
      rw [HR.out]
      exact ⟨rfl, HUz.out⟩
    | some pq =>
      obtain ⟨e1, _, e3⟩ := HQ.out pq hv
      rw [hv] at HR
      have HF := Hid.of (show fte p.data.toList s.data.toList = if (if m = [] then inc || isLow n0 else decide (n0 = m) && !inc) then 0 else 111 by
        rw [HR.out]
        show (if fit pq m = true then (0 : Int) else 111) = _
        unfold fit
        rw [e1, e3]
        rfl)
      rw [← hm1, ← hn1, isLow_eq] at HF
      clear hv HR e1 e3 hm1 hn1 hn2 HQ
      dsimp only [Option.isSome]
      by_cases hm : ms.data.toList = []
      · have he : ms.toList.isEmpty = true := by rw [Go.Lib.toList_data, hm]; rfl
        rw [if_pos hm] at HF
        clear hm
        cases h48 : (ns.toList == [48]) with
        | true =>
          rw [h48] at HF
          go_wp2
          go_ret
          rw [HF.out]
          exact ⟨by simp, HUz.out⟩
        | false =>
          rw [h48] at HF
          cases h49 : (ns.toList == [49]) with
          | true =>
            rw [h49] at HF
            go_wp2
            go_ret
            rw [HF.out]
            exact ⟨by simp, HUz.out⟩
          | false =>
            rw [h49] at HF
            cases inc with
            | true =>
              go_wp2
              go_ret
              rw [HF.out]
              exact ⟨rfl, HUz.out⟩
            | false =>
              go_wp2
              go_ret
              rw [HF.out]
              exact ⟨rfl, HUz.out⟩
      · have he : ms.toList.isEmpty = false := by
          rw [Go.Lib.toList_data]
          cases h : ms.data.toList with
          | nil => exact absurd h hm
          | cons a r => rfl
        have hqq : (ns.toList == ms.toList) = decide (ns.data.toList = ms.data.toList) := by
          rw [Go.Lib.toList_data, Go.Lib.toList_data, Bool.eq_iff_iff]
          simp
        rw [if_neg hm] at HF
        clear hm
        generalize decide (ns.data.toList = ms.data.toList) = bq at *
        cases bq with
        | true =>
          cases inc with
          | true =>
            go_wp2
            go_ret
            rw [HF.out]
            exact ⟨rfl, HUz.out⟩
          | false =>
            go_wp2
            go_ret
            rw [HF.out]
            exact ⟨rfl, HUz.out⟩
        | false =>
          go_wp2
          go_ret
          rw [HF.out]
          exact ⟨rfl, HUz.out⟩
theorem fte_len {p v : List UInt8} (h : fte p v = 0) : p.length ≤ 255 ∧ v.length ≤ 128 := by
  unfold fte at h
  cases hm : maj p with
  | none => rw [hm] at h; cases h
  | some m =>
    rw [hm] at h
    cases hv : ver v with
    | none => rw [hv] at h; cases h
    | some q =>
      constructor
      · unfold maj at hm
        split at hm
        · cases hm
        · omega
      · unfold ver at hv
        split at hv
        · cases hv
        · omega
set_option maxRecDepth 100000 in
theorem RKey_walk (p s : ByteArray) (w : World) (hT : TK w) : Calls Tryz.prog 25 #[.string p, .string s] w fun e w' => e = .returned (.tuple #[.string ⟨(keyT p.data.toList s.data.toList).toArray⟩, .int .i64 (fte p.data.toList s.data.toList)]) ∧ Up w w' := by
  have HF := Hid.of (Fits_walk p s w hT)
  have HK : Hid (keyT p.data.toList s.data.toList = if fte p.data.toList s.data.toList = 0 then p.data.toList ++ 64 :: s.data.toList else []) := rfl
  clear hT
  have HL := Hid.of (fun h => fte_len (p := p.data.toList) (v := s.data.toList) h)
  rw [len_of, len_of] at HL
  generalize fte p.data.toList s.data.toList = f at *
  go_enter Tryz.func25, Tryz.ntmps25
  go_wp2_with fail
  refine (HF.out).mono ?_
  rintro e w1 ⟨rfl, u1⟩
  have H1 := Hid.of (u1)
  have Hu1 := Hid.of u1
  clear u1
  dsimp only
  by_cases h0 : f = 0
  · subst h0
    obtain ⟨l1, l2⟩ := HL.out rfl
    rw [if_pos rfl] at HK
    have k1 : ¬ 9223372036854775807 < p.size + 1 := by omega
    have k2 : ¬ 9223372036854775807 < p.size + 1 + s.size := by omega
    go_wp2
    go_ret2
    refine ⟨?_, H1.out⟩
    rw [HK.out]
    refine congrArg (fun z => Ending.returned (.tuple #[.string z, .int .i64 0])) ?_
    rw [ba_app, ba_app]
    simp
  · have hz : (f == 0) = false := by simpa using h0
    rw [if_neg h0] at HK
    clear h0
    go_wp2
    go_ret2
    refine ⟨?_, H1.out⟩
    rw [HK.out]
    rfl
end Go.Proofs.YtfopojnljfpmkaaGreatDoor
