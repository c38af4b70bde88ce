import Derived.Test.YtabpgpbcnadgcaaGreatDoorLz
namespace Go.Proofs.YtabpgpbcnadgcaaGreatDoor
open Go.RowKit Go.Shelf TextNum
set_option maxRecDepth 100000 in
set_option maxHeartbeats 2000000 in
theorem Rbare2_walk (z : Int) (w : World) : Calls Tryz.prog 81 #[.int .i64 z] w fun e w' => e = .returned (.bool (bdl z)) ∧ w' = w := by
  obtain ⟨rv, hrv⟩ : ∃ rv, bdl z = rv := ⟨_, rfl⟩
  have HR := Hid.of hrv
  rw [hrv]
  clear hrv
  unfold bdl at HR
  by_cases h0 : 100 ≤ z ∧ z ≤ 199
  · have h1 := h0.1
    have h2 := h0.2
    have h3 : z < 200 := by omega
    have HE := Hid.of (show rv = true by rw [← HR.out, decide_eq_true h1, decide_eq_true h2]; rfl)
    clear h0
    go_enter Tryz.func81, Tryz.ntmps81
    go_wp2
    go_ret
    rw [HE.out]
    exact ⟨rfl, rfl⟩
  · have hd : (decide (100 ≤ z) && decide (z ≤ 199)) = false := by
      rw [Bool.and_eq_false_iff, decide_eq_false_iff_not, decide_eq_false_iff_not]; omega
    have HR2 := Hid.of (show rv = ((z == 204) || (z == 304)) by rw [← HR.out, hd]; rfl)
    clear HR hd
    cases h4 : (z == 204) with
    | true =>
      rw [h4] at HR2
      have HE := Hid.of (show rv = true from HR2.out)
      have hz : z = 204 := by simpa using h4
      subst hz
      clear h0
      go_enter Tryz.func81, Tryz.ntmps81
      go_wp2
      go_ret
      rw [HE.out]
      exact ⟨rfl, rfl⟩
    | false =>
      rw [h4] at HR2
      have HE := Hid.of (show rv = (z == 304) by rw [HR2.out]; rfl)
      by_cases h1 : 100 ≤ z
      · have h2 : ¬ z < 200 := by omega
        clear h0
        go_enter Tryz.func81, Tryz.ntmps81
        go_wp2
        go_ret
        rw [HE.out]
        exact ⟨rfl, rfl⟩
      · clear h0
        go_enter Tryz.func81, Tryz.ntmps81
        go_wp2
        go_ret
        rw [HE.out]
        exact ⟨rfl, rfl⟩
/-- a response by the definition -/
def rsX (l : List UInt8) : Er ((Rs × Bool × List UInt8) × Nat) := match rHd 3 l with
  | .error k => .error k
  | .ok (st, ls, k) => match rsl st with
    | .error e => .error e
    | .ok (s, mi) => match rfd ls with
      | .error e => .error e
      | .ok fs => if bdl (s : Int) = true then .ok ((⟨s, mi, fs⟩, cls (mi == 0) fs, []), k) else match rln fs mi with
        | .error e => .error e
        | .ok n => if n = -1 then (if 1048576 < (l.drop k).length then .error 7 else .ok ((⟨s, mi, fs⟩, true, l.drop k), k + (l.drop k).length)) else match bdy n (l.drop k) with
          | .error e => .error e
          | .ok (b, j) => .ok ((⟨s, mi, fs⟩, cls (mi == 0) fs, b), k + j)
theorem rsP_rsX (l : List UInt8) : rsP l = rsX l := by
  have h := cHd_ref (α := Er ((Rs × Bool × List UInt8) × Nat)) 3 l (fun k => .error k) (fun st R k => match rsl st with
    | .error e => .error e
    | .ok (s, mi) => match R with
      | .error e => .error e
      | .ok fs => match rsF (s : Int) fs mi with
        | .error e => .error e
        | .ok (way, len) => match fcu way len (l.drop k) with
          | .error e => .error e
          | .ok (b, j) => .ok ((⟨s, mi, fs⟩, (way == 1) || cls (mi == 0) fs, b), k + j))
  have e1 : rsP l = match cHd 3 l with
    | .error k => .error k
    | .ok (st, fl, k) => match rsl st with
      | .error e => .error e
      | .ok (s, mi) => match rdf fl with
        | .error e => .error e
        | .ok fs => match rsF (s : Int) fs mi with
          | .error e => .error e
          | .ok (way, len) => match fcu way len (l.drop k) with
            | .error e => .error e
            | .ok (b, j) => .ok ((⟨s, mi, fs⟩, (way == 1) || cls (mi == 0) fs, b), k + j) := by
    unfold rsP msg rsg
    cases cHd 3 l with
    | error k => rfl
    | ok q =>
      obtain ⟨st, fl, k⟩ := q
      dsimp only
      cases rsl st with
      | error e => rfl
      | ok q =>
        obtain ⟨s, mi⟩ := q
        dsimp only
        cases rdf fl with
        | error e => rfl
        | ok fs =>
          dsimp only
          cases rsF (s : Int) fs mi with
          | error e => rfl
          | ok q => rfl
  refine e1.trans (Eq.trans (by exact h) ?_)
  unfold rsX
  cases hr : rHd 3 l with
  | error k => rfl
  | ok q =>
    obtain ⟨st, ls, k⟩ := q
    have hsm := rHd_small hr
    dsimp only
    cases rsl st with
    | error e => rfl
    | ok q =>
      obtain ⟨s, mi⟩ := q
      dsimp only
      cases hfd : rfd ls with
      | error e => rfl
      | ok fs =>
        have hsz := rfd_small hsm.2.1 hfd
        have hs : ∀ f ∈ fs, f.v.size ≤ 1048576 := fun f hf => by have := szs_mem fs hf; omega
        dsimp only
        unfold rsF
        by_cases hb : bdl (s : Int) = true
        · rw [if_pos hb, if_pos hb]
          have e2 : fcu 0 0 (l.drop k) = .ok ([], 0) := by unfold fcu; rw [if_neg (by decide), if_neg (by decide), if_neg (by decide)]
          dsimp only
          rw [e2]
          rfl
        · rw [if_neg hb, if_neg hb]
          have h1 := frm_rln fs mi 1 hs
          cases hl : rln fs mi with
          | error e =>
            rw [hl] at h1
            rw [h1]
          | ok n =>
            rw [hl] at h1
            dsimp only at h1 ⊢
            rcases rln_ok hl with rfl | rfl | ⟨h0, hm⟩
            · rw [if_pos rfl] at h1
              rw [h1, if_neg (by decide)]
              have e2 : fcu 3 0 (l.drop k) = bdy (-2) (l.drop k) := by
                unfold fcu bdy
                rw [if_pos rfl, if_pos rfl]
                cases unk (l.drop k) <;> rfl
              dsimp only
              rw [e2]
              rfl
            · rw [if_neg (by decide), if_pos rfl] at h1
              rw [h1, if_pos rfl]
              have e2 : fcu 1 0 (l.drop k) = if 1048576 < (l.drop k).length then .error 7 else .ok (l.drop k, (l.drop k).length) := by
                unfold fcu
                rw [if_neg (by decide), if_pos rfl]
              dsimp only
              rw [e2]
              by_cases hbig : 1048576 < (l.drop k).length
              · rw [if_pos hbig, if_pos hbig]
              · rw [if_neg hbig, if_neg hbig]
                rfl
            · rw [if_neg (by omega), if_neg (by omega)] at h1
              rw [h1, if_neg (by omega)]
              have e2 : fcu 2 n.toNat (l.drop k) = bdy n (l.drop k) := by
                unfold fcu bdy
                rw [if_neg (by decide), if_neg (by decide), if_pos rfl, if_neg (show ¬ n = -2 by omega)]
              dsimp only
              rw [e2]
              rfl
theorem grown_set2 (W : World) (b o : Nat) (v : Value) : W.grownBy (W.setCell ⟨b, o, none⟩ v) (some b) :=
  ⟨rfl, rfl, rfl, (KeepsWalks.setCell W _ v).size, fun k _ hk => Below.heap_setCell _ _ _ k (fun e => hk (by rw [e]))⟩
def RPsR (w w' : World) (e : Ending) : Er ((Rs × Bool × List UInt8) × Nat) → Prop
  | .error k => e = .returned (.tuple #[.agg z5.toArray, .int .i64 0, .int .i64 (numK k)])
  | .ok ((x, cl, b), n) => ∃ a c v, e = .returned (.tuple #[rsV x cl a c v, .int .i64 (n : Int), .int .i64 0]) ∧ Hid (RfO w' w.heap.size a x.fs c ∧ Sb w' v b)
theorem stn_lt {l : List UInt8} (h : sok l = true) : stn l ≤ 999 := by
  obtain ⟨a, b, c, t, ha, hb, hc, hl, h8, ht⟩ := sok_form h
  have h1 := isD_nat ha
  have h2 := isD_nat hb
  have h3 := isD_nat hc
  have h4 := (sok_of h8 ha hb hc ht).2.2
  rw [← hl] at h4
  rw [h4]
  unfold nv nvf
  simp only [List.foldl_cons, List.foldl_nil]
  omega
set_option maxRecDepth 100000 in
set_option maxHeartbeats 16000000 in
theorem RParseResponse_walk {a : Option Addr} {n c : Nat} {ds : List UInt8} (hn40 : n ≤ 1099511627000) (w : World) (hS : Sb w (.slice a n c) ds) : Calls Tryz.prog 31 #[.slice a n c] w fun e w' => RPsR w w' e (rsP ds) ∧ Up w w' := by
  rw [rsP_rsX]
  obtain ⟨hn, hnc, hcm⟩ := hS.len
  have HA1 := Hid.of (at_new w 73 z5)
  have HU1 := Hid.of ((Up.refl w).alloc (.cells z5.toArray 73))
  have hcv : (convert 22 9 (.slice a n c)).run Tryz.prog (w.alloc (.cells #[.int .i64 0, .int .i64 0, .slice none 0 0, .slice none 0 0, .bool false] 73)) = .ok (.string ⟨ds.toArray⟩) (w.alloc (.cells #[.int .i64 0, .int .i64 0, .slice none 0 0, .slice none 0 0, .bool false] 73)) := conv_sb2 (hS.up HU1.out)
  clear hS hnc hcm
  obtain ⟨s, hs⟩ : ∃ s : ByteArray, (⟨ds.toArray⟩ : ByteArray) = s := ⟨_, rfl⟩
  have HL := Hid.of (show s.data.toList = ds by rw [← hs])
  have HZ := Hid.of (show s.size = ds.length by rw [Go.Lib.size_eq, HL.out])
  have hsz : s.size ≤ 1099511627000 := by rw [HZ.out]; omega
  rw [hs] at hcv
  clear hs hn
  obtain ⟨rv, hrv⟩ : ∃ rv, rsX ds = rv := ⟨_, rfl⟩
  have HR := Hid.of hrv
  unfold rsX at HR
  rw [hrv]
  clear hrv
  have HCh := Hid.of (RcutHead_walk s 3 (by decide) 141 rfl hsz (w.alloc (.cells z5.toArray 73)))
  rw [HL.out] at HCh
  go_enter Tryz.func31, Tryz.ntmps31
  go_wp2_with fail
  change Calls _ _ _ (w.alloc (.cells z5.toArray 73)) _
  clear hcv
  generalize w.alloc (.cells z5.toArray 73) = w1 at *
  refine HCh.out.mono ?_
  rintro e w2 ⟨hC2, h9⟩
  have HU2 := Hid.of (HU1.out.trans h9)
  have HA2 := Hid.of (HA1.out.up h9)
  clear h9 HCh
  cases hh : rHd 3 ds with
  | error k =>
    rw [hh] at hC2 HR
    dsimp only at HR
    obtain ⟨a2, n2, c2, rfl⟩ := hC2
    have hne := numK_ne (rHd_er (by decide) hh)
    have HE := Hid.of (show rv = .error k from HR.out.symm)
    obtain ⟨q, hq⟩ : ∃ q, numK k = q := ⟨_, rfl⟩
    have HQ := Hid.of hq
    rw [hq] at hne
    dsimp only
    rw [hq]
    clear hq hh
    go_wp2_with (with_reducible show wpList _ _ _ ({ dst := _, op := Op.store 73 _ _, type := _, pos := _, after := _, guard := _ } :: _) _ _; refine Shut.out ?_)
    show wpList _ _ _ _ _ _
    refine wpList_store_at rfl 73 _ _ rfl (w.heap.size) HA2.out z5 rfl rfl rfl (by kernel_rfl) (by kernel_rfl) ?_
    intro w8 hA8 hg8
    have HA8 := Hid.of hA8
    have HU8 := Hid.of (HU2.out.by hg8 (fun g hg => by have := Option.some.inj hg; omega))
    clear hA8 hg8
    simp only [Act.put]
    repeat go_step
    refine bodyPost_ret (result_cell_tmp2 Tryz.results31 _ _ (w.heap.size) z5 _ _ rfl rfl rfl HA8.out.range Tryz.underlying73 rfl (by kernel_rfl)) rfl ?_
    rw [HE.out]
    refine ⟨?_, HU8.out⟩
    show Ending.returned _ = Ending.returned _
    rw [HQ.out]
    rfl
  | ok q0 =>
    obtain ⟨st, ls, k⟩ := q0
    obtain ⟨hst, hls, hkl⟩ := rHd_small hh
    rw [hh] at hC2 HR
    dsimp only at HR
    obtain ⟨al, cl, rfl, hLS⟩ := hC2
    have HLS2 := Hid.of hLS.out
    have hcapl := hLS.out.stl.cap
    rw [bts_len] at hcapl
    clear hh hLS
    dsimp only
    obtain ⟨nl, hnl⟩ : ∃ nl, ls.length = nl := ⟨_, rfl⟩
    have HNl := Hid.of hnl
    have hnlz : nl ≤ 16384 := by rw [← hnl]; have := lsz_len ls; omega
    rw [hnl] at hcapl ⊢
    clear hnl
    obtain ⟨X, hX⟩ : ∃ X : ByteArray, (⟨st.toArray⟩ : ByteArray) = X := ⟨_, rfl⟩
    have HXl := Hid.of (show X.data.toList = st by rw [← hX])
    have hXz : X.size ≤ 8000 := by rw [Go.Lib.size_eq, HXl.out]; exact hst
    have HvX := Hid.of (show vs st = .string X by rw [← hX])
    rw [HvX.out]
    clear hX hst
    have HSl := Hid.of (fun w => RstatusLine_walk X (by omega) w)
    rw [HXl.out] at HSl
    have HRl := Hid.of (rsl_ref st)
    have HSv : Hid (slV st = if sok st = true then .tuple #[.int .i64 (vrs (st.take 8)).1, .int .i64 (vrs (st.take 8)).2, .int .i64 (stn st : Int), .bool (decide (0 ≤ (vrs (st.take 8)).1))] else .tuple #[.int .i64 0, .int .i64 0, .int .i64 0, .bool false]) := Hid.of rfl
    have HSt := Hid.of (fun h => stn_lt (l := st) h)
    have HVok := Hid.of (fun h => vrs_neg (d := st.take 8) h)
    have HVp := Hid.of (fun h => vrs_pos (d := st.take 8) h)
    generalize rsl st = rq at *
    generalize slV st = sv at *
    generalize sok st = bso at *
    generalize stn st = sn at *
    generalize vrs (st.take 8) = vv at *
    generalize vok (st.take 8) = bvk at *
    go_wp2_with fail
    refine (HSl.out w2).mono ?_
    rintro e w3 ⟨rfl, h9⟩
    have HU3 := Hid.of (HU2.out.trans h9)
    have HA3 := Hid.of (HA2.out.up h9)
    have HLS3 := Hid.of (ow_up HLS2.out h9)
    clear HSl
    clear h9
    cases bso with
    | false =>
      have HE := Hid.of (show rv = .error 3 by rw [← HR.out, HRl.out]; rfl)
      rw [HSv.out, if_neg (by decide)]
      clear HSv HSt HVok HVp
      go_wp2_with (with_reducible show wpList _ _ _ ({ dst := _, op := Op.store 73 _ _, type := _, pos := _, after := _, guard := _ } :: _) _ _; refine Shut.out ?_)
      show wpList _ _ _ _ _ _
      refine wpList_store_at rfl 73 _ _ rfl (w.heap.size) HA3.out z5 rfl rfl rfl (by kernel_rfl) (by kernel_rfl) ?_
      intro w8 hA8 hg8
      have HA8 := Hid.of hA8
      have HU8 := Hid.of (HU3.out.by hg8 (fun g hg => by have := Option.some.inj hg; omega))
      clear hA8 hg8
      simp only [Act.put]
      repeat go_step
      refine bodyPost_ret (result_cell_tmp2 Tryz.results31 _ _ (w.heap.size) z5 _ _ rfl rfl rfl HA8.out.range Tryz.underlying73 rfl (by kernel_rfl)) rfl ?_
      rw [HE.out]
      exact ⟨rfl, HU8.out⟩
    | true =>
      have hsn := HSt.out rfl
      rw [HSv.out, if_pos rfl]
      clear HSv HSt
      cases bvk with
      | false =>
        have HE := Hid.of (show rv = .error 3 by rw [← HR.out, HRl.out]; rfl)
        have hvv := HVok.out rfl
        subst hvv
        clear HVok HVp
        dsimp only
        go_wp2_with (with_reducible show wpList _ _ _ ({ dst := _, op := Op.store 73 _ _, type := _, pos := _, after := _, guard := _ } :: _) _ _; refine Shut.out ?_)
        show wpList _ _ _ _ _ _
        refine wpList_store_at rfl 73 _ _ rfl (w.heap.size) HA3.out z5 rfl rfl rfl (by kernel_rfl) (by kernel_rfl) ?_
        intro w8 hA8 hg8
        have HA8 := Hid.of hA8
        have HU8 := Hid.of (HU3.out.by hg8 (fun g hg => by have := Option.some.inj hg; omega))
        clear hA8 hg8
        simp only [Act.put]
        repeat go_step
        refine bodyPost_ret (result_cell_tmp2 Tryz.results31 _ _ (w.heap.size) z5 _ _ rfl rfl rfl HA8.out.range Tryz.underlying73 rfl (by kernel_rfl)) rfl ?_
        rw [HE.out]
        exact ⟨rfl, HU8.out⟩
      | true =>
        obtain ⟨mj, mi⟩ := vv
        dsimp only at HRl HVp ⊢
        obtain ⟨m0, m9, i0, i9⟩ := HVp.out rfl
        rw [decide_eq_true m0]
        clear HVok HVp
        have HRq := Hid.of (show rq = if ¬ (mj = 1 ∧ mi ≤ 1) then .error 4 else if sto (sn : Int) = false then .error 11 else .ok (sn, mi) from HRl.out)
        clear HRl
        by_cases hmj : mj = 1
        · subst hmj
          by_cases hmi : mi ≤ 1
          · have hmiz : ¬ (1 : Int) < mi := by omega
            rw [if_neg (fun h => h ⟨rfl, hmi⟩)] at HRq
            by_cases h100 : sn < 100
            · have h100z : (sn : Int) < 100 := by omega
              have HE := Hid.of (show rv = .error 11 by
                rw [← HR.out, HRq.out, if_pos (by unfold sto; rw [decide_eq_false (by omega)]; rfl)])
              go_wp2_with (with_reducible show wpList _ _ _ ({ dst := _, op := Op.store 73 _ _, type := _, pos := _, after := _, guard := _ } :: _) _ _; refine Shut.out ?_)
              show wpList _ _ _ _ _ _
              refine wpList_store_at rfl 73 _ _ rfl (w.heap.size) HA3.out z5 rfl rfl rfl (by kernel_rfl) (by kernel_rfl) ?_
              intro w8 hA8 hg8
              have HA8 := Hid.of hA8
              have HU8 := Hid.of (HU3.out.by hg8 (fun g hg => by have := Option.some.inj hg; omega))
              clear hA8 hg8
              simp only [Act.put]
              repeat go_step
              refine bodyPost_ret (result_cell_tmp2 Tryz.results31 _ _ (w.heap.size) z5 _ _ rfl rfl rfl HA8.out.range Tryz.underlying73 rfl (by kernel_rfl)) rfl ?_
              rw [HE.out]
              exact ⟨rfl, HU8.out⟩
            · have h100z : ¬ (sn : Int) < 100 := by omega
              by_cases h599 : 599 < sn
              · have h599z : (599 : Int) < (sn : Int) := by omega
                have HE := Hid.of (show rv = .error 11 by
                  rw [← HR.out, HRq.out, if_pos (by unfold sto; rw [decide_eq_false (show ¬ (sn : Int) ≤ 599 by omega)]; simp)])
                go_wp2_with (with_reducible show wpList _ _ _ ({ dst := _, op := Op.store 73 _ _, type := _, pos := _, after := _, guard := _ } :: _) _ _; refine Shut.out ?_)
                show wpList _ _ _ _ _ _
                refine wpList_store_at rfl 73 _ _ rfl (w.heap.size) HA3.out z5 rfl rfl rfl (by kernel_rfl) (by kernel_rfl) ?_
                intro w8 hA8 hg8
                have HA8 := Hid.of hA8
                have HU8 := Hid.of (HU3.out.by hg8 (fun g hg => by have := Option.some.inj hg; omega))
                clear hA8 hg8
                simp only [Act.put]
                repeat go_step
                refine bodyPost_ret (result_cell_tmp2 Tryz.results31 _ _ (w.heap.size) z5 _ _ rfl rfl rfl HA8.out.range Tryz.underlying73 rfl (by kernel_rfl)) rfl ?_
                rw [HE.out]
                exact ⟨rfl, HU8.out⟩
              · have h599z : ¬ (599 : Int) < (sn : Int) := by omega
                have hsto : sto (sn : Int) = true := by
                  unfold sto
                  rw [decide_eq_true (show (100 : Int) ≤ (sn : Int) by omega), decide_eq_true (show (sn : Int) ≤ 599 by omega)]
                  rfl
                rw [if_neg (by rw [hsto]; simp)] at HRq
                rw [HRq.out] at HR
                dsimp only at HR
                clear HRq hsto
                have HFs := Hid.of (show ∀ w2, StO w2 w1.heap.size al (bts ls) cl → Calls Tryz.prog 76 #[.slice al nl cl] w2 fun e w' => FsR w2 w' e (rfd ls) ∧ Up w2 w' from fun w2 h => by
                  have h1 := Rfields_walk al ls cl w2 h.stl (by rw [HNl.out]; omega) (fun x hx => by have := lsz_mem hx; omega)
                  rw [HNl.out] at h1
                  exact h1)
                go_wp2_with fail
                refine (HFs.out w3 HLS3.out).mono ?_
                rintro e w5 ⟨hF5, h9⟩
                have HU5 := Hid.of (HU3.out.trans h9)
                have HA5 := Hid.of (HA3.out.up h9)
                have HS35 := Hid.of h9.size
                clear HFs
                clear h9
                cases hfd : rfd ls with
                | error q =>
                  rw [hfd] at hF5 HR
                  obtain ⟨a2, n2, c2, rfl⟩ := hF5
                  have HE := Hid.of (show rv = .error q from HR.out.symm)
                  rcases rfd_er hfd with rfl | rfl
                  all_goals
                    clear hfd
                    dsimp only
                    go_wp2_with (with_reducible show wpList _ _ _ ({ dst := _, op := Op.store 73 _ _, type := _, pos := _, after := _, guard := _ } :: _) _ _; refine Shut.out ?_)
                    show wpList _ _ _ _ _ _
                    refine wpList_store_at rfl 73 _ _ rfl (w.heap.size) HA5.out z5 rfl rfl rfl (by kernel_rfl) (by kernel_rfl) ?_
                    intro w8 hA8 hg8
                    have HA8 := Hid.of hA8
                    have HU8 := Hid.of (HU5.out.by hg8 (fun g hg => by have := Option.some.inj hg; omega))
                    clear hA8 hg8
                    simp only [Act.put]
                    repeat go_step
                    refine bodyPost_ret (result_cell_tmp2 Tryz.results31 _ _ (w.heap.size) z5 _ _ rfl rfl rfl HA8.out.range Tryz.underlying73 rfl (by kernel_rfl)) rfl ?_
                    rw [HE.out]
                    exact ⟨rfl, HU8.out⟩
                | ok fs =>
                  have hszs := rfd_small hls hfd
                  rw [hfd] at hF5 HR
                  dsimp only at HR
                  obtain ⟨af, cf, rfl, hRF⟩ := hF5
                  have HRF5 := Hid.of hRF.out
                  have hcapf := hRF.out.fdl.cap
                  clear hfd hRF
                  dsimp only
                  obtain ⟨nf, hnf⟩ : ∃ nf, fs.length = nf := ⟨_, rfl⟩
                  have HNf := Hid.of hnf
                  rw [hnf] at hcapf ⊢
                  clear hnf
                  have HLe := Hid.of (show ∀ w2, RfO w2 w3.heap.size af fs cf → Calls Tryz.prog 77 #[.slice af nf cf, .int .i64 mi] w2 fun e w' => e = .returned (lnR (rln fs mi)) ∧ Up w2 w' from fun w2 h => by
                    have h1 := Rlength_walk af fs cf mi w2 h.fdl (by omega)
                    rw [HNf.out] at h1
                    exact h1)
                  have HCl := Hid.of (show ∀ w2, RfO w2 w3.heap.size af fs cf → Calls Tryz.prog 79 #[.slice af nf cf, .int .i64 mi] w2 fun e w' => e = .returned (.bool (cls (mi == 0) fs)) ∧ Up w2 w' from fun w2 h => by
                    have h1 := Rcloses_walk af fs cf mi w2 h.fdl (by omega)
                    rw [HNf.out] at h1
                    exact h1)
                  obtain ⟨bcl, hbcl⟩ : ∃ bcl, cls (mi == 0) fs = bcl := ⟨_, rfl⟩
                  rw [hbcl] at HCl HR
                  clear hbcl
                  have HNv := Hid.of (show ∀ (cl : Bool) (v : Value), rsV ⟨sn, mi, fs⟩ cl af cf v = .agg #[.int .i64 (sn : Int), .int .i64 mi, .slice af nf cf, v, .bool cl] from fun cl v => rsV_eq HNf.out rfl)
                  go_wp2_with fail
                  refine (HCl.out w5 HRF5.out).mono ?_
                  rintro e w6 ⟨rfl, h9⟩
                  have HU6 := Hid.of (HU5.out.trans h9)
                  have HA6 := Hid.of (HA5.out.up h9)
                  have HRF6 := Hid.of (ow_up HRF5.out h9)
                  have HS36 := Hid.of (Nat.le_trans HS35.out h9.size)
                  clear HCl
                  clear h9
                  dsimp only
                  have HB6 := Hid.of (at_new w6 73 z5)
                  have HUb6 := Hid.of ((Up.refl w6).alloc (.cells z5.toArray 73))
                  obtain ⟨Br, hBr⟩ : ∃ Br, w6.heap.size = Br := ⟨_, rfl⟩
                  rw [hBr] at HB6
                  go_wp2_with (with_reducible show wpList _ _ _ ({ dst := _, op := Op.store 73 _ _, type := _, pos := _, after := _, guard := _ } :: _) _ _; refine Shut.out ?_)
                  show wpList _ _ _ _ _ _
                  refine wpList_store_at rfl 73 _ _ rfl Br HB6.out [.int .i64 (sn : Int), .int .i64 mi, .slice af nf cf, .slice none 0 0, .bool bcl] rfl rfl rfl (by kernel_rfl) (by kernel_rfl) ?_
                  intro w7 hA7 hg7
                  have HB7 := Hid.of hA7
                  have HU67 := Hid.of (HUb6.out.by hg7 (fun g hg => by have := Option.some.inj hg; omega))
                  have HU7 := Hid.of (HU6.out.trans HU67.out)
                  have HA7 := Hid.of (HA6.out.up HU67.out)
                  have HRF7 := Hid.of (ow_up HRF6.out HU67.out)
                  have hwB : w.heap.size < Br := by rw [← hBr]; exact lt_of_at HA6.out
                  have hw3B : w3.heap.size ≤ Br := by rw [← hBr]; exact HS36.out
                  clear hA7 hg7 HB6 HUb6
                  simp only [Act.put]
                  have HBa := Hid.of (Rbare2_walk (sn : Int) w7)
                  go_wp2_with fail
                  refine HBa.out.mono ?_
                  rintro e w9 ⟨rfl, h9⟩
                  obtain rfl := h9.symm
                  clear h9 HBa
                  dsimp only
                  cases hbd : bdl (sn : Int) with
                  | true =>
                    have HE := Hid.of (show rv = .ok ((⟨sn, mi, fs⟩, bcl, []), k) by rw [← HR.out, if_pos hbd])
                    have HVal := Hid.of (show (.tuple #[rsV ⟨sn, mi, fs⟩ bcl af cf (.slice none 0 0), .int .i64 (k : Int), .int .i64 0] : Value) = .tuple #[.agg #[.int .i64 (sn : Int), .int .i64 mi, .slice af nf cf, .slice none 0 0, .bool bcl], .int .i64 (k : Int), .int .i64 0] by rw [HNv.out])
                    clear hbd
                    go_wp2_with (with_reducible show wpList _ _ _ ({ dst := _, op := Op.load 73 _, type := _, pos := _, after := _, guard := _ } :: _) _ _; refine Shut.out ?_)
                    show wpList _ _ _ _ _ _
                    refine wpList_load_mid rfl _ _ rfl Br 0 rfl [.int .i64 (sn : Int), .int .i64 mi, .slice af nf cf, .slice none 0 0, .bool bcl] _ HB7.out.range Tryz.underlying73 rfl (by kernel_rfl) ?_
                    simp only [Act.put, List.setIfInBounds_toArray, List.set_cons_zero, List.set_cons_succ]
                    go_wp2_with (with_reducible show wpList _ _ _ ({ dst := _, op := Op.store 73 _ _, type := _, pos := _, after := _, guard := _ } :: _) _ _; refine Shut.out ?_)
                    show wpList _ _ _ _ _ _
                    refine wpList_store_at rfl 73 _ _ rfl (w.heap.size) HA7.out [.int .i64 (sn : Int), .int .i64 mi, .slice af nf cf, .slice none 0 0, .bool bcl] rfl rfl rfl (by kernel_rfl) (by kernel_rfl) ?_
                    intro w8 hA8 hg8
                    have HA8 := Hid.of hA8
                    have HU8 := Hid.of (HU7.out.by hg8 (fun g hg => by have := Option.some.inj hg; omega))
                    have HRF8 := Hid.of (show RfO w8 w.heap.size af fs cf from ow_base (RfO.grow HRF7.out hg8 (lt_of_at HA3.out)) (Nat.le_of_lt (lt_of_at HA3.out)))
                    have HSb8 := Hid.of (sb_nil' w8)
                    clear hA8 hg8
                    simp only [Act.put]
                    repeat go_step
                    refine bodyPost_ret (result_cell_tmp2 Tryz.results31 _ _ (w.heap.size) [.int .i64 (sn : Int), .int .i64 mi, .slice af nf cf, .slice none 0 0, .bool bcl] _ _ rfl rfl rfl HA8.out.range Tryz.underlying73 rfl (by kernel_rfl)) rfl ?_
                    rw [HE.out]
                    refine ⟨⟨af, cf, .slice none 0 0, ?_, Hid.of ⟨HRF8.out, HSb8.out⟩⟩, HU8.out⟩
                    exact (congrArg Ending.returned HVal.out).symm
                  | false =>
                    rw [if_neg (by rw [hbd]; simp)] at HR
                    clear hbd
                    go_wp2_with fail
                    refine (HLe.out w7 HRF7.out).mono ?_
                    rintro e w10 ⟨rfl, h9⟩
                    have HU10 := Hid.of (HU7.out.trans h9)
                    have HA10 := Hid.of (HA7.out.up h9)
                    have HB10 := Hid.of (HB7.out.up h9)
                    have HRF10 := Hid.of (ow_up HRF7.out h9)
                    clear HLe
                    clear h9
                    cases hln : rln fs mi with
                    | error q =>
                      rw [hln] at HR
                      have HE := Hid.of (show rv = .error q from HR.out.symm)
                      rcases rln_er hln with rfl | rfl
                      · rw [show lnR (.error 5) = .tuple #[.int .i64 0, .int .i64 143] from rfl]
                        clear hln
                        go_wp2_with (with_reducible show wpList _ _ _ ({ dst := _, op := Op.store 73 _ _, type := _, pos := _, after := _, guard := _ } :: _) _ _; refine Shut.out ?_)
                        show wpList _ _ _ _ _ _
                        refine wpList_store_at rfl 73 _ _ rfl (w.heap.size) HA10.out z5 rfl rfl rfl (by kernel_rfl) (by kernel_rfl) ?_
                        intro w8 hA8 hg8
                        have HA8 := Hid.of hA8
                        have HU8 := Hid.of (HU10.out.by hg8 (fun g hg => by have := Option.some.inj hg; omega))
                        clear hA8 hg8
                        simp only [Act.put]
                        repeat go_step
                        refine bodyPost_ret (result_cell_tmp2 Tryz.results31 _ _ (w.heap.size) z5 _ _ rfl rfl rfl HA8.out.range Tryz.underlying73 rfl (by kernel_rfl)) rfl ?_
                        rw [HE.out]
                        exact ⟨rfl, HU8.out⟩
                      · rw [show lnR (.error 7) = .tuple #[.int .i64 0, .int .i64 145] from rfl]
                        clear hln
                        go_wp2_with (with_reducible show wpList _ _ _ ({ dst := _, op := Op.store 73 _ _, type := _, pos := _, after := _, guard := _ } :: _) _ _; refine Shut.out ?_)
                        show wpList _ _ _ _ _ _
                        refine wpList_store_at rfl 73 _ _ rfl (w.heap.size) HA10.out z5 rfl rfl rfl (by kernel_rfl) (by kernel_rfl) ?_
                        intro w8 hA8 hg8
                        have HA8 := Hid.of hA8
                        have HU8 := Hid.of (HU10.out.by hg8 (fun g hg => by have := Option.some.inj hg; omega))
                        clear hA8 hg8
                        simp only [Act.put]
                        repeat go_step
                        refine bodyPost_ret (result_cell_tmp2 Tryz.results31 _ _ (w.heap.size) z5 _ _ rfl rfl rfl HA8.out.range Tryz.underlying73 rfl (by kernel_rfl)) rfl ?_
                        rw [HE.out]
                        exact ⟨rfl, HU8.out⟩
                    | ok nn =>
                      rw [hln] at HR
                      dsimp only at HR
                      rw [show lnR (.ok nn) = .tuple #[.int .i64 nn, .int .i64 0] from rfl]
                      have hkz : (k : Int) ≤ (s.size : Int) := by rw [HZ.out]; omega
                      obtain ⟨Y, hY⟩ : ∃ Y : ByteArray, s.extract k s.size = Y := ⟨_, rfl⟩
                      have HYl := Hid.of (show Y.data.toList = ds.drop k by rw [← hY, extr_drop, HL.out])
                      have hYz : Y.size ≤ s.size := by rw [← hY, ByteArray.size_extract]; omega
                      have hAx : w.heap.size < w10.heap.size := lt_of_at HA10.out
                      have hBx : Br < w10.heap.size := lt_of_at HB10.out
                      by_cases hnn : nn = -1
                      · subst hnn
                        rw [if_pos rfl] at HR
                        clear hln
                        obtain ⟨m, hm⟩ : ∃ m, (ds.drop k).length = m := ⟨_, rfl⟩
                        have hmz : s.size - k = m := by rw [← hm, List.length_drop, HZ.out]
                        rw [hm] at HR
                        have hmi2 : (s.size : Int) - (k : Int) = (m : Int) := by omega
                        have k4 := HB10.out.cell (i := 4) rfl
                        have f4 := HB10.out.thaw 4
                        have G11 := grown_set2 w10 Br 4 (.bool true)
                        obtain ⟨w11, hw11⟩ : ∃ w11, w10.setCell ⟨Br, 4, none⟩ (.bool true) = w11 := ⟨_, rfl⟩
                        rw [hw11] at G11
                        have HB11 := Hid.of (show At w11 Br 73 [.int .i64 (sn : Int), .int .i64 mi, .slice af nf cf, .slice none 0 0, .bool true] by rw [← hw11]; exact HB10.out.set 4 (.bool true))
                        have HU11 := Hid.of (HU10.out.by G11 (fun g hg => by have := Option.some.inj hg; omega))
                        have HA11 := Hid.of (HA10.out.by G11 (fun e => by have := Option.some.inj e; omega))
                        have HRF11 := Hid.of (show RfO w11 w3.heap.size af fs cf from World.ownsRow.kept HRF10.out G11 (.inr (own_ne HRF10.out HB10.out (by decide))))
                        have hs11 : w10.heap.size ≤ w11.heap.size := G11.size
                        clear G11
                        by_cases hbig : 1048576 < m
                        · have hbz : (1048576 : Int) < (m : Int) := by omega
                          have HE := Hid.of (show rv = .error 7 by rw [← HR.out, if_pos hbig])
                          go_wp2_with (with_reducible show wpList _ _ _ ({ dst := _, op := Op.store 73 _ _, type := _, pos := _, after := _, guard := _ } :: _) _ _; refine Shut.out ?_)
                          show wpList _ _ _ _ _ _
                          refine wpList_store_at rfl 73 _ _ rfl (w.heap.size) HA11.out z5 rfl rfl rfl (by kernel_rfl) (by kernel_rfl) ?_
                          intro w8 hA8 hg8
                          have HA8 := Hid.of hA8
                          have HU8 := Hid.of (HU11.out.by hg8 (fun g hg => by have := Option.some.inj hg; omega))
                          clear hA8 hg8
                          simp only [Act.put]
                          repeat go_step
                          refine bodyPost_ret (result_cell_tmp2 Tryz.results31 _ _ (w.heap.size) z5 _ _ rfl rfl rfl HA8.out.range Tryz.underlying73 rfl (by kernel_rfl)) rfl ?_
                          rw [HE.out]
                          exact ⟨rfl, HU8.out⟩
                        · have hbz : ¬ (1048576 : Int) < (m : Int) := by omega
                          rw [if_neg hbig] at HR
                          have HBo := Hid.of (show ∀ w, Calls Tryz.prog 78 #[.string Y, .int .i64 (m : Int)] w fun e w' => BoR w w' e (.ok (ds.drop k, m)) ∧ Up w w' from fun w => by
                            have h := Rbody_some Y m (by omega) w
                            rw [HYl.out] at h
                            have e2 : bdy (m : Int) (ds.drop k) = .ok (ds.drop k, m) := by
                              unfold bdy
                              rw [if_neg (by omega), Int.toNat_natCast, if_neg (by omega), List.take_of_length_le (by omega)]
                            rw [e2] at h
                            exact h)
                          go_wp2_with fail
                          refine (HBo.out w11).mono ?_
                          rintro e w12 ⟨hB12, h9⟩
                          have HU12 := Hid.of (HU11.out.trans h9)
                          have HA12 := Hid.of (HA11.out.up h9)
                          have HB12 := Hid.of (HB11.out.up h9)
                          have HRF12 := Hid.of (ow_up HRF11.out h9)
                          have HS12 := Hid.of h9.size
                          clear HBo
                          clear h9
                          obtain ⟨vb2, rfl, hSb⟩ := hB12
                          obtain ⟨bl, hbl⟩ : ∃ bl, ds.drop k = bl := ⟨_, rfl⟩
                          rw [hbl] at HR hSb
                          have HE := Hid.of (show rv = .ok ((⟨sn, mi, fs⟩, true, bl), k + m) from HR.out.symm)
                          have hfrom : w10.heap.size ≤ w11.heap.size := hs11
                          clear hbl hm
                          have HSb12 := Hid.of hSb.out.1
                          have HFv := Hid.of hSb.out.2
                          clear hSb
                          obtain ⟨aB, nB, cB, rfl⟩ := HSb12.out.shape
                          dsimp only
                          have HVal := Hid.of (show (.tuple #[rsV ⟨sn, mi, fs⟩ true af cf (.slice aB nB cB), .int .i64 ((k + m : Nat) : Int), .int .i64 0] : Value) = .tuple #[.agg #[.int .i64 (sn : Int), .int .i64 mi, .slice af nf cf, .slice aB nB cB, .bool true], .int .i64 ((k : Int) + (m : Int)), .int .i64 0] by rw [HNv.out, Int.natCast_add])
                          have hwk : IntKind.i64.wrap ((k : Int) + (m : Int)) = (k : Int) + (m : Int) := wrapk _ (by omega) (by omega)
                          have k3 := HB12.out.cell (i := 3) rfl
                          have f3 := HB12.out.thaw 3
                          have G13 := grown_set2 w12 Br 3 (.slice aB nB cB)
                          obtain ⟨w13, hw13⟩ : ∃ w13, w12.setCell ⟨Br, 3, none⟩ (.slice aB nB cB) = w13 := ⟨_, rfl⟩
                          rw [hw13] at G13
                          have HB13 := Hid.of (show At w13 Br 73 [.int .i64 (sn : Int), .int .i64 mi, .slice af nf cf, .slice aB nB cB, .bool true] by rw [← hw13]; exact HB12.out.set 3 (.slice aB nB cB))
                          have HU13 := Hid.of (HU12.out.by G13 (fun g hg => by have := Option.some.inj hg; omega))
                          have HA13 := Hid.of (HA12.out.by G13 (fun e => by have := Option.some.inj e; omega))
                          have HRF13 := Hid.of (show RfO w13 w3.heap.size af fs cf from World.ownsRow.kept HRF12.out G13 (.inr (own_ne HRF12.out HB12.out (by decide))))
                          have HSb13 := Hid.of (HSb12.out.kept G13 (.inr (fun e => by have h1 := HFv.out _ e; omega)))
                          have hvb : (Value.slice aB nB cB).ownBlock = none ∨ (Value.slice aB nB cB).ownBlock ≠ some w.heap.size := .inr (fun e => by have h1 := HFv.out _ e; omega)
                          clear G13
                          go_wp2_with (with_reducible show wpList _ _ _ ({ dst := _, op := Op.load 73 _, type := _, pos := _, after := _, guard := _ } :: _) _ _; refine Shut.out ?_)
                          show wpList _ _ _ _ _ _
                          refine wpList_load_mid rfl _ _ rfl Br 0 rfl [.int .i64 (sn : Int), .int .i64 mi, .slice af nf cf, .slice aB nB cB, .bool true] _ HB13.out.range Tryz.underlying73 rfl (by kernel_rfl) ?_
                          simp only [Act.put, List.setIfInBounds_toArray, List.set_cons_zero, List.set_cons_succ]
                          go_wp2_with (with_reducible show wpList _ _ _ ({ dst := _, op := Op.store 73 _ _, type := _, pos := _, after := _, guard := _ } :: _) _ _; refine Shut.out ?_)
                          show wpList _ _ _ _ _ _
                          refine wpList_store_at rfl 73 _ _ rfl (w.heap.size) HA13.out [.int .i64 (sn : Int), .int .i64 mi, .slice af nf cf, .slice aB nB cB, .bool true] rfl rfl rfl (by kernel_rfl) (by kernel_rfl) ?_
                          intro w8 hA8 hg8
                          have HA8 := Hid.of hA8
                          have HU8 := Hid.of (HU13.out.by hg8 (fun g hg => by have := Option.some.inj hg; omega))
                          have HRF8 := Hid.of (show RfO w8 w.heap.size af fs cf from ow_base (RfO.grow HRF13.out hg8 (lt_of_at HA3.out)) (Nat.le_of_lt (lt_of_at HA3.out)))
                          have HSb8 := Hid.of (HSb13.out.kept hg8 hvb)
                          clear hA8 hg8
                          simp only [Act.put]
                          repeat go_step
                          refine bodyPost_ret (result_cell_tmp2 Tryz.results31 _ _ (w.heap.size) [.int .i64 (sn : Int), .int .i64 mi, .slice af nf cf, .slice aB nB cB, .bool true] _ _ rfl rfl rfl HA8.out.range Tryz.underlying73 rfl (by kernel_rfl)) rfl ?_
                          rw [HE.out]
                          refine ⟨⟨af, cf, .slice aB nB cB, ?_, Hid.of ⟨HRF8.out, HSb8.out⟩⟩, HU8.out⟩
                          exact (congrArg Ending.returned HVal.out).symm
                      · have hnnz : (nn == -1) = false := by rw [beq_eq_false_iff_ne]; exact hnn
                        rw [if_neg hnn] at HR
                        have HBo := Hid.of (show ∀ w, Calls Tryz.prog 78 #[.string Y, .int .i64 nn] w fun e w' => BoR w w' e (bdy nn (ds.drop k)) ∧ Up w w' from fun w => by
                          rcases rln_ok hln with rfl | rfl | ⟨h0, h1⟩
                          · have h := Rbody_chunks Y (by omega) w
                            rw [HYl.out] at h
                            exact h
                          · exact absurd rfl hnn
                          · obtain ⟨j, rfl⟩ := Int.eq_ofNat_of_zero_le h0
                            have h := Rbody_some Y j (by omega) w
                            rw [HYl.out] at h
                            exact h)
                        have HBl2 := Hid.of (fun b j h => bdy_len (n := nn) (l := ds.drop k) (b := b) (j := j) h)
                        have HBy := Hid.of (fun q h => bdy_er (n := nn) (l := ds.drop k) (k := q) h)
                        generalize bdy nn (ds.drop k) = by2 at *
                        clear hln hnn
                        go_wp2_with fail
                        refine (HBo.out w10).mono ?_
                        rintro e w12 ⟨hB12, h9⟩
                        have HU12 := Hid.of (HU10.out.trans h9)
                        have HA12 := Hid.of (HA10.out.up h9)
                        have HB12 := Hid.of (HB10.out.up h9)
                        have HRF12 := Hid.of (ow_up HRF10.out h9)
                        have HS12 := Hid.of h9.size
                        clear HBo
                        clear h9
                        cases hby : by2 with
                        | error q =>
                          rw [hby] at hB12 HR
                          have HE := Hid.of (show rv = .error q from HR.out.symm)
                          obtain rfl : e = _ := hB12
                          have hne := numK_ne (HBy.out q hby)
                          obtain ⟨nq, hnq⟩ : ∃ nq, numK q = nq := ⟨_, rfl⟩
                          have HQ := Hid.of hnq
                          rw [hnq] at hne
                          dsimp only
                          rw [hnq]
                          clear hnq hby
                          go_wp2_with (with_reducible show wpList _ _ _ ({ dst := _, op := Op.store 73 _ _, type := _, pos := _, after := _, guard := _ } :: _) _ _; refine Shut.out ?_)
                          show wpList _ _ _ _ _ _
                          refine wpList_store_at rfl 73 _ _ rfl (w.heap.size) HA12.out z5 rfl rfl rfl (by kernel_rfl) (by kernel_rfl) ?_
                          intro w8 hA8 hg8
                          have HA8 := Hid.of hA8
                          have HU8 := Hid.of (HU12.out.by hg8 (fun g hg => by have := Option.some.inj hg; omega))
                          clear hA8 hg8
                          simp only [Act.put]
                          repeat go_step
                          refine bodyPost_ret (result_cell_tmp2 Tryz.results31 _ _ (w.heap.size) z5 _ _ rfl rfl rfl HA8.out.range Tryz.underlying73 rfl (by kernel_rfl)) rfl ?_
                          rw [HE.out]
                          refine ⟨?_, HU8.out⟩
                          show Ending.returned _ = Ending.returned _
                          rw [HQ.out]
                          rfl
                        | ok p =>
                          obtain ⟨bl, m⟩ := p
                          rw [hby] at hB12 HR
                          obtain ⟨vb2, rfl, hSb⟩ := hB12
                          have HJz := Hid.of (HBl2.out bl m hby)
                          rw [List.length_drop, ← HZ.out] at HJz
                          have HE := Hid.of (show rv = .ok ((⟨sn, mi, fs⟩, bcl, bl), k + m) from HR.out.symm)
                          have hfrom : w10.heap.size ≤ w10.heap.size := Nat.le_refl _
                          have hmz : m ≤ s.size := by have := HJz.out; omega
                          clear hby
                          have HSb12 := Hid.of hSb.out.1
                          have HFv := Hid.of hSb.out.2
                          clear hSb
                          obtain ⟨aB, nB, cB, rfl⟩ := HSb12.out.shape
                          dsimp only
                          have HVal := Hid.of (show (.tuple #[rsV ⟨sn, mi, fs⟩ bcl af cf (.slice aB nB cB), .int .i64 ((k + m : Nat) : Int), .int .i64 0] : Value) = .tuple #[.agg #[.int .i64 (sn : Int), .int .i64 mi, .slice af nf cf, .slice aB nB cB, .bool bcl], .int .i64 ((k : Int) + (m : Int)), .int .i64 0] by rw [HNv.out, Int.natCast_add])
                          have hwk : IntKind.i64.wrap ((k : Int) + (m : Int)) = (k : Int) + (m : Int) := wrapk _ (by omega) (by omega)
                          have k3 := HB12.out.cell (i := 3) rfl
                          have f3 := HB12.out.thaw 3
                          have G13 := grown_set2 w12 Br 3 (.slice aB nB cB)
                          obtain ⟨w13, hw13⟩ : ∃ w13, w12.setCell ⟨Br, 3, none⟩ (.slice aB nB cB) = w13 := ⟨_, rfl⟩
                          rw [hw13] at G13
                          have HB13 := Hid.of (show At w13 Br 73 [.int .i64 (sn : Int), .int .i64 mi, .slice af nf cf, .slice aB nB cB, .bool bcl] by rw [← hw13]; exact HB12.out.set 3 (.slice aB nB cB))
                          have HU13 := Hid.of (HU12.out.by G13 (fun g hg => by have := Option.some.inj hg; omega))
                          have HA13 := Hid.of (HA12.out.by G13 (fun e => by have := Option.some.inj e; omega))
                          have HRF13 := Hid.of (show RfO w13 w3.heap.size af fs cf from World.ownsRow.kept HRF12.out G13 (.inr (own_ne HRF12.out HB12.out (by decide))))
                          have HSb13 := Hid.of (HSb12.out.kept G13 (.inr (fun e => by have h1 := HFv.out _ e; omega)))
                          have hvb : (Value.slice aB nB cB).ownBlock = none ∨ (Value.slice aB nB cB).ownBlock ≠ some w.heap.size := .inr (fun e => by have h1 := HFv.out _ e; omega)
                          clear G13
                          go_wp2_with (with_reducible show wpList _ _ _ ({ dst := _, op := Op.load 73 _, type := _, pos := _, after := _, guard := _ } :: _) _ _; refine Shut.out ?_)
                          show wpList _ _ _ _ _ _
                          refine wpList_load_mid rfl _ _ rfl Br 0 rfl [.int .i64 (sn : Int), .int .i64 mi, .slice af nf cf, .slice aB nB cB, .bool bcl] _ HB13.out.range Tryz.underlying73 rfl (by kernel_rfl) ?_
                          simp only [Act.put, List.setIfInBounds_toArray, List.set_cons_zero, List.set_cons_succ]
                          go_wp2_with (with_reducible show wpList _ _ _ ({ dst := _, op := Op.store 73 _ _, type := _, pos := _, after := _, guard := _ } :: _) _ _; refine Shut.out ?_)
                          show wpList _ _ _ _ _ _
                          refine wpList_store_at rfl 73 _ _ rfl (w.heap.size) HA13.out [.int .i64 (sn : Int), .int .i64 mi, .slice af nf cf, .slice aB nB cB, .bool bcl] rfl rfl rfl (by kernel_rfl) (by kernel_rfl) ?_
                          intro w8 hA8 hg8
                          have HA8 := Hid.of hA8
                          have HU8 := Hid.of (HU13.out.by hg8 (fun g hg => by have := Option.some.inj hg; omega))
                          have HRF8 := Hid.of (show RfO w8 w.heap.size af fs cf from ow_base (RfO.grow HRF13.out hg8 (lt_of_at HA3.out)) (Nat.le_of_lt (lt_of_at HA3.out)))
                          have HSb8 := Hid.of (HSb13.out.kept hg8 hvb)
                          clear hA8 hg8
                          simp only [Act.put]
                          repeat go_step
                          refine bodyPost_ret (result_cell_tmp2 Tryz.results31 _ _ (w.heap.size) [.int .i64 (sn : Int), .int .i64 mi, .slice af nf cf, .slice aB nB cB, .bool bcl] _ _ rfl rfl rfl HA8.out.range Tryz.underlying73 rfl (by kernel_rfl)) rfl ?_
                          rw [HE.out]
                          refine ⟨⟨af, cf, .slice aB nB cB, ?_, Hid.of ⟨HRF8.out, HSb8.out⟩⟩, HU8.out⟩
                          exact (congrArg Ending.returned HVal.out).symm
          · have hmiz : (1 : Int) < mi := by omega
            have HE := Hid.of (show rv = .error 4 by rw [← HR.out, HRq.out, if_pos (fun h => hmi h.2)])
            go_wp2_with (with_reducible show wpList _ _ _ ({ dst := _, op := Op.store 73 _ _, type := _, pos := _, after := _, guard := _ } :: _) _ _; refine Shut.out ?_)
            show wpList _ _ _ _ _ _
            refine wpList_store_at rfl 73 _ _ rfl (w.heap.size) HA3.out z5 rfl rfl rfl (by kernel_rfl) (by kernel_rfl) ?_
            intro w8 hA8 hg8
            have HA8 := Hid.of hA8
            have HU8 := Hid.of (HU3.out.by hg8 (fun g hg => by have := Option.some.inj hg; omega))
            clear hA8 hg8
            simp only [Act.put]
            repeat go_step
            refine bodyPost_ret (result_cell_tmp2 Tryz.results31 _ _ (w.heap.size) z5 _ _ rfl rfl rfl HA8.out.range Tryz.underlying73 rfl (by kernel_rfl)) rfl ?_
            rw [HE.out]
            exact ⟨rfl, HU8.out⟩
        · have hmjz : (mj != 1) = true := by rw [bne_iff_ne]; exact hmj
          have HE := Hid.of (show rv = .error 4 by rw [← HR.out, HRq.out, if_pos (fun h => hmj h.1)])
          clear hmj
          go_wp2_with (with_reducible show wpList _ _ _ ({ dst := _, op := Op.store 73 _ _, type := _, pos := _, after := _, guard := _ } :: _) _ _; refine Shut.out ?_)
          show wpList _ _ _ _ _ _
          refine wpList_store_at rfl 73 _ _ rfl (w.heap.size) HA3.out z5 rfl rfl rfl (by kernel_rfl) (by kernel_rfl) ?_
          intro w8 hA8 hg8
          have HA8 := Hid.of hA8
          have HU8 := Hid.of (HU3.out.by hg8 (fun g hg => by have := Option.some.inj hg; omega))
          clear hA8 hg8
          simp only [Act.put]
          repeat go_step
          refine bodyPost_ret (result_cell_tmp2 Tryz.results31 _ _ (w.heap.size) z5 _ _ rfl rfl rfl HA8.out.range Tryz.underlying73 rfl (by kernel_rfl)) rfl ?_
          rw [HE.out]
          exact ⟨rfl, HU8.out⟩
end Go.Proofs.YtabpgpbcnadgcaaGreatDoor
namespace Go.Proofs.YtabpgpbcnadgcaaGreatDoor
open Go.RowKit Go.Shelf TextNum
set_option maxRecDepth 100000 in
set_option maxHeartbeats 2000000 in
theorem sameRes_same (st mi : Int) (fs : List FD) (nf : Nat) (cl : Bool) (a1 a2 : Option Addr) (c1' c2' : Nat) (v1 v2 : Value) (b : List UInt8) (hnf : fs.length = nf) (hl : nf ≤ 1048576) (w : World) (h1 : FdL w a1 fs c1') (h2 : FdL w a2 fs c2') (s1 : Sb w v1 b) (s2 : Sb w v2 b) :
    Calls Tryz.prog 33 #[.agg #[.int .i64 st, .int .i64 mi, .slice a1 nf c1', v1, .bool cl], .agg #[.int .i64 st, .int .i64 mi, .slice a2 nf c2', v2, .bool cl]] w fun e w' => e = .returned (.bool true) ∧ Up w w' := by
  obtain ⟨aB, nB, cB, rfl⟩ := Sb.shape s1
  obtain ⟨aC, nC, cC, rfl⟩ := Sb.shape s2
  have HNf := Hid.of hnf
  clear hnf
  obtain ⟨w1, hw1⟩ : ∃ w1, (w.alloc (.cells [.int .i64 st, .int .i64 mi, .slice a1 nf c1', .slice aB nB cB, .bool cl].toArray 77)).alloc (.cells [.int .i64 st, .int .i64 mi, .slice a2 nf c2', .slice aC nC cC, .bool cl].toArray 73) = w1 := ⟨_, rfl⟩
  have HU := Hid.of (show Up w w1 by rw [← hw1]; exact ((Up.refl w).alloc _).alloc _)
  have A1 : At w1 w.heap.size 77 [.int .i64 st, .int .i64 mi, .slice a1 nf c1', .slice aB nB cB, .bool cl] := by
    rw [← hw1]
    exact (at_new w 77 [.int .i64 st, .int .i64 mi, .slice a1 nf c1', .slice aB nB cB, .bool cl]).up ((Up.refl _).alloc _)
  have A2 : At w1 (w.heap.size + 1) 73 [.int .i64 st, .int .i64 mi, .slice a2 nf c2', .slice aC nC cC, .bool cl] := by
    rw [← hw1]
    have := at_new (w.alloc (.cells [.int .i64 st, .int .i64 mi, .slice a1 nf c1', .slice aB nB cB, .bool cl].toArray 77)) 73 [.int .i64 st, .int .i64 mi, .slice a2 nf c2', .slice aC nC cC, .bool cl]
    rw [alloc_size] at this
    exact this
  have HA1 := Hid.of A1
  have HA2 := Hid.of A2
  have HAl := Hid.of (sameFields_same a1 a2 fs c1' c2' nf HNf.out hl w1 (h1.up HU.out) (h2.up HU.out))
  have HS1 := Hid.of s1
  have HS2 := Hid.of s2
  go_enter Tryz.func33, Tryz.ntmps33
  go_wp2_with (with_reducible show wpList _ _ _ ({ dst := _, op := Op.fieldAddr 77 _ _, type := _, pos := _, after := _, guard := _ } :: _) _ _; refine Shut.out ?_)
  show wpList _ _ _ _ _ _
  clear hw1 s1 s2 h1 h2
  have p0 : w1.cell? ⟨w.heap.size, 0, none⟩ = _ := A1.cell (i := 0) rfl
  have p1 : w1.cell? ⟨w.heap.size, 1, none⟩ = _ := A1.cell (i := 1) rfl
  have p2 : w1.cell? ⟨w.heap.size, 2, none⟩ = _ := A1.cell (i := 2) rfl
  have p5 : w1.cell? ⟨w.heap.size, 4, none⟩ = _ := A1.cell (i := 4) rfl
  have q0 : w1.cell? ⟨w.heap.size + 1, 0, none⟩ = _ := A2.cell (i := 0) rfl
  have q1 : w1.cell? ⟨w.heap.size + 1, 1, none⟩ = _ := A2.cell (i := 1) rfl
  have q2 : w1.cell? ⟨w.heap.size + 1, 2, none⟩ = _ := A2.cell (i := 2) rfl
  have q5 : w1.cell? ⟨w.heap.size + 1, 4, none⟩ = _ := A2.cell (i := 4) rfl
  clear A1 A2
  have e1 : (st != st) = false := by simp
  have e3 : (mi != mi) = false := by simp
  have e4 : (cl != cl) = false := by simp
  go_wp2_with fail
  refine HAl.out.mono ?_
  rintro e w2 ⟨rfl, u2⟩
  have HU2 := Hid.of (HU.out.trans u2)
  have p4 : w2.cell? ⟨w.heap.size, 3, none⟩ = some (.slice aB nB cB) := (HA1.out.up u2).cell (i := 3) rfl
  have q4 : w2.cell? ⟨w.heap.size + 1, 3, none⟩ = some (.slice aC nC cC) := (HA2.out.up u2).cell (i := 3) rfl
  have cv1 := conv_sb2 (HS1.out.up HU2.out)
  have cv2 := conv_sb2 (HS2.out.up HU2.out)
  clear u2 p0 p1 p2 p5 q0 q1 q2 q5
  dsimp only
  obtain ⟨B, hB⟩ : ∃ B : ByteArray, (⟨b.toArray⟩ : ByteArray) = B := ⟨_, rfl⟩
  rw [hB] at cv1 cv2
  have e5 : (B.toList == B.toList) = true := beq_self_eq_true _
  go_wp2
  go_ret
  exact ⟨rfl, HU2.out⟩
theorem RParseResponse_dat {a : Option Addr} {n c : Nat} {ds : List UInt8} (hn40 : n ≤ 1099511627000) (w : World) (hS : Sb w (.slice a n c) ds) : Calls Tryz.prog 31 #[.slice a n c] w fun e w' => (∃ a c v, e = .returned (.tuple #[sV (datS (rsP ds)) a c v, .int .i64 (datS (rsP ds)).n, .int .i64 (datS (rsP ds)).e]) ∧ Hid (FdL w' a (datS (rsP ds)).fs c ∧ Sb w' v (datS (rsP ds)).b)) ∧ Up w w' := by
  refine (RParseResponse_walk hn40 w hS).mono ?_
  rintro e w' ⟨hR, hU⟩
  refine ⟨?_, hU⟩
  cases h : rsP ds with
  | error k =>
    rw [h] at hR
    obtain rfl : e = _ := hR
    exact ⟨none, 0, .slice none 0 0, rfl, Hid.of ⟨fdl_nil w', sb_nil' w'⟩⟩
  | ok q =>
    obtain ⟨⟨x, cl, b⟩, n'⟩ := q
    rw [h] at hR
    obtain ⟨a', c', v, rfl, hO⟩ := hR
    exact ⟨a', c', v, rfl, Hid.of ⟨hO.out.1.fdl, hO.out.2⟩⟩
set_option maxRecDepth 100000 in
set_option maxHeartbeats 8000000 in
theorem parses_res (ad : Nat → Addr) (a : Option Addr) (n c : Nat) (b : List UInt8) (w : World) (hS : Sb w (.slice a n c) b) (hW : GW w ad) (hb : b.length ≤ 1099511000) :
    Calls Tryz.prog 8 #[.agg #[.int .i64 2, .slice a n c, .int .i64 0, .int .i64 0, .string ⟨#[]⟩, .string ⟨#[]⟩, .string ⟨#[]⟩, .int .i64 0, .slice none 0 0, .slice none 0 0, .slice none 0 0, .int .i64 0, .int .i64 0, .int .i64 0, .slice none 0 0, .slice none 0 0, .slice none 0 0, .int .i64 0]] w fun e w' => e = .returned (.bool true) ∧ Up w w' := by
  have HA1 := Hid.of (at_new w 31 [.int .i64 2, .slice a n c, .int .i64 0, .int .i64 0, .string ⟨#[]⟩, .string ⟨#[]⟩, .string ⟨#[]⟩, .int .i64 0, .slice none 0 0, .slice none 0 0, .slice none 0 0, .int .i64 0, .int .i64 0, .int .i64 0, .slice none 0 0, .slice none 0 0, .slice none 0 0, .int .i64 0])
  have HU1 := Hid.of ((Up.refl w).alloc (.cells [.int .i64 2, .slice a n c, .int .i64 0, .int .i64 0, .string ⟨#[]⟩, .string ⟨#[]⟩, .string ⟨#[]⟩, .int .i64 0, .slice none 0 0, .slice none 0 0, .slice none 0 0, .int .i64 0, .int .i64 0, .int .i64 0, .slice none 0 0, .slice none 0 0, .slice none 0 0, .int .i64 0].toArray 31))
  have HPd := Hid.of (padded_walk (.slice a n c) b 0 (by omega) (w.alloc (.cells [.int .i64 2, .slice a n c, .int .i64 0, .int .i64 0, .string ⟨#[]⟩, .string ⟨#[]⟩, .string ⟨#[]⟩, .int .i64 0, .slice none 0 0, .slice none 0 0, .slice none 0 0, .int .i64 0, .int .i64 0, .int .i64 0, .slice none 0 0, .slice none 0 0, .slice none 0 0, .int .i64 0].toArray 31)) (hS.up HU1.out))
  rw [pdd_zero] at HPd
  have HW := Hid.of hW
  clear hS hW
  obtain ⟨D, hD⟩ : ∃ D, datS (rsP b) = D := ⟨_, rfl⟩
  have HR := Hid.of (show ∀ (a : Option Addr) (n c : Nat) w2, n ≤ 1099511627000 → Sb w2 (.slice a n c) b → Up w w2 → Calls Tryz.prog 31 #[.slice a n c] w2 fun e w' => (∃ a c v, e = .returned (.tuple #[sV D a c v, .int .i64 D.n, .int .i64 D.e]) ∧ Hid (FdL w' a D.fs c ∧ Sb w' v D.b)) ∧ Up w2 w' from fun a n c w2 h1 h2 h3 => by
    rw [← hD]
    exact RParseResponse_dat h1 w2 h2)
  have HP := Hid.of (show ∀ (a : Option Addr) (n c : Nat) w2, n ≤ 1099511627000 → Sb w2 (.slice a n c) b → Up w w2 → Calls Tryz.prog 32 #[.slice a n c] w2 fun e w' => (∃ a c v, e = .returned (.tuple #[sV D a c v, .int .i64 D.n, .int .i64 D.e]) ∧ Hid (FdL w' a D.fs c ∧ Sb w' v D.b)) ∧ Up w2 w' from fun a n c w2 h1 h2 h3 => by
    rw [← hD]
    refine (ParseResponse_dat ad (by omega) w2 h2 (HW.out.up h3)).mono ?_
    rintro e w' ⟨a', c', v, rfl, hO, hU⟩
    exact ⟨⟨a', c', v, rfl, Hid.of ⟨hO.out.1.fdl, hO.out.2.sb⟩⟩, hU⟩)
  have hsm : Sml D.fs := by rw [← hD]; exact datS_sml
  obtain ⟨st, mi, fs, cl, bo, nn, ee⟩ := D
  dsimp only [sV] at HR HP hsm
  obtain ⟨nf, hnf⟩ : ∃ nf, fs.length = nf := ⟨_, rfl⟩
  rw [hnf] at HR HP
  have HNf := Hid.of hnf
  have hnfz : nf ≤ 1048576 := by rw [← hnf]; exact hsm.1
  clear hD hnf hsm
  go_enter Tryz.func8, Tryz.ntmps8
  go_wp2_with (with_reducible show wpList _ _ _ ({ dst := _, op := Op.fieldAddr 31 _ _, type := _, pos := _, after := _, guard := _ } :: _) _ _; refine Shut.out ?_)
  show wpList _ _ _ _ _ _
  change wpList _ _ _ _ _ (w.alloc (.cells [.int .i64 2, .slice a n c, .int .i64 0, .int .i64 0, .string ⟨#[]⟩, .string ⟨#[]⟩, .string ⟨#[]⟩, .int .i64 0, .slice none 0 0, .slice none 0 0, .slice none 0 0, .int .i64 0, .int .i64 0, .int .i64 0, .slice none 0 0, .slice none 0 0, .slice none 0 0, .int .i64 0].toArray 31))
  generalize w.alloc (.cells [.int .i64 2, .slice a n c, .int .i64 0, .int .i64 0, .string ⟨#[]⟩, .string ⟨#[]⟩, .string ⟨#[]⟩, .int .i64 0, .slice none 0 0, .slice none 0 0, .slice none 0 0, .int .i64 0, .int .i64 0, .int .i64 0, .slice none 0 0, .slice none 0 0, .slice none 0 0, .int .i64 0].toArray 31) = w1 at *
  have p1 : w1.cell? ⟨w.heap.size, 1, none⟩ = _ := HA1.out.cell (i := 1) rfl
  have p2 : w1.cell? ⟨w.heap.size, 2, none⟩ = _ := HA1.out.cell (i := 2) rfl
  go_wp2_with fail
  refine HPd.out.mono ?_
  rintro e w2 ⟨v2, rfl, hO2, h9⟩
  obtain ⟨a2, c2, rfl⟩ := row_len hO2
  have HU2 := Hid.of (HU1.out.trans h9)
  have HA2 := Hid.of (HA1.out.up h9)
  have HS2 := Hid.of (Ow.sb hO2)
  clear h9 hO2 p1 p2 HPd
  dsimp only
  have p0 : w2.cell? ⟨w.heap.size, 0, none⟩ = _ := HA2.out.cell (i := 0) rfl
  go_wp2_with fail
  refine (HR.out a2 b.length c2 w2 (by omega) HS2.out HU2.out).mono ?_
  rintro e w3 ⟨⟨aR, cR, vR, rfl, hO⟩, h9⟩
  have HU3 := Hid.of (HU2.out.trans h9)
  have HS3 := Hid.of (HS2.out.up h9)
  have HF3 := Hid.of hO.out.1
  have HB3 := Hid.of hO.out.2
  obtain ⟨aB, nB, cB, rfl⟩ := Sb.shape HB3.out
  clear h9 hO p0 HR
  dsimp only
  have HA3 := Hid.of (at_new w3 73 z5)
  have HUa3 := Hid.of ((Up.refl w3).alloc (.cells z5.toArray 73))
  go_wp2_with (with_reducible show wpList _ _ _ ({ dst := _, op := Op.store 73 _ _, type := _, pos := _, after := _, guard := _ } :: _) _ _; refine Shut.out ?_)
  show wpList _ _ _ _ _ _
  refine wpList_store_at rfl 73 _ _ rfl (w3.heap.size) HA3.out [.int .i64 st, .int .i64 mi, .slice aR nf cR, .slice aB nB cB, .bool cl] rfl rfl rfl (by kernel_rfl) (by kernel_rfl) ?_
  intro w4 hA4 hg4
  have HA4 := Hid.of hA4
  have HU34 := Hid.of (HUa3.out.by hg4 (fun g hg => by have := Option.some.inj hg; omega))
  have HU4 := Hid.of (HU3.out.trans HU34.out)
  have HS4 := Hid.of (HS3.out.up HU34.out)
  have HF4 := Hid.of (HF3.out.up HU34.out)
  have HB4 := Hid.of (HB3.out.up HU34.out)
  clear hA4 hg4 HA3 HUa3 HF3 HB3 HS3
  simp only [Act.put]
  go_wp2_with fail
  refine (HP.out a2 b.length c2 w4 (by omega) HS4.out HU4.out).mono ?_
  rintro e w5 ⟨⟨aP, cP, vP, rfl, hO⟩, h9⟩
  have HU5 := Hid.of (HU4.out.trans h9)
  have HA5 := Hid.of (HA4.out.up h9)
  have HF5 := Hid.of (HF4.out.up h9)
  have HB5 := Hid.of (HB4.out.up h9)
  have HG5 := Hid.of hO.out.1
  have HC5 := Hid.of hO.out.2
  obtain ⟨aC, nC, cC, rfl⟩ := Sb.shape HC5.out
  clear h9 hO HP HS4
  dsimp only
  have HZ5 := Hid.of (at_new w5 77 z5)
  have HUa5 := Hid.of ((Up.refl w5).alloc (.cells z5.toArray 77))
  go_wp2_with (with_reducible show wpList _ _ _ ({ dst := _, op := Op.store 77 _ _, type := _, pos := _, after := _, guard := _ } :: _) _ _; refine Shut.out ?_)
  show wpList _ _ _ _ _ _
  refine wpList_store_at rfl 77 _ _ rfl (w5.heap.size) HZ5.out [.int .i64 st, .int .i64 mi, .slice aP nf cP, .slice aC nC cC, .bool cl] rfl rfl rfl (by kernel_rfl) (by kernel_rfl) ?_
  intro w6 hA6 hg6
  have HZ6 := Hid.of hA6
  have HU56 := Hid.of (HUa5.out.by hg6 (fun g hg => by have := Option.some.inj hg; omega))
  have HU6 := Hid.of (HU5.out.trans HU56.out)
  have HA6 := Hid.of (HA5.out.up HU56.out)
  have HF6 := Hid.of (HF5.out.up HU56.out)
  have HB6 := Hid.of (HB5.out.up HU56.out)
  have HG6 := Hid.of (HG5.out.up HU56.out)
  have HC6 := Hid.of (HC5.out.up HU56.out)
  clear hA6 hg6 HZ5 HUa5
  simp only [Act.put]
  go_wp2_with (with_reducible show wpList _ _ _ ({ dst := _, op := Op.load 77 _, type := _, pos := _, after := _, guard := _ } :: _) _ _; refine Shut.out ?_)
  show wpList _ _ _ _ _ _
  refine wpList_load_midH (by kernel_rfl) _ _ rfl w5.heap.size 0 rfl [.int .i64 st, .int .i64 mi, .slice aP nf cP, .slice aC nC cC, .bool cl] _ HZ6.out.range Tryz.underlying77 rfl (by kernel_rfl) ?_
  simp only [Act.put, List.setIfInBounds_toArray, List.set_cons_zero, List.set_cons_succ]
  go_wp2_with (with_reducible show wpList _ _ _ ({ dst := _, op := Op.load 73 _, type := _, pos := _, after := _, guard := _ } :: _) _ _; refine Shut.out ?_)
  show wpList _ _ _ _ _ _
  refine wpList_load_midH (by kernel_rfl) _ _ rfl w3.heap.size 0 rfl [.int .i64 st, .int .i64 mi, .slice aR nf cR, .slice aB nB cB, .bool cl] _ HA6.out.range Tryz.underlying73 rfl (by kernel_rfl) ?_
  simp only [Act.put, List.setIfInBounds_toArray, List.set_cons_zero, List.set_cons_succ]
  go_wp2_with fail
  refine (sameRes_same st mi fs nf cl aP aR cP cR (.slice aC nC cC) (.slice aB nB cB) bo HNf.out hnfz w6 HG6.out HF6.out HC6.out HB6.out).mono ?_
  rintro e w7 ⟨rfl, h9⟩
  have HU7 := Hid.of (HU6.out.trans h9)
  clear h9
  dsimp only
  go_wp2
  go_ret
  exact ⟨rfl, HU7.out⟩
set_option maxRecDepth 100000 in
set_option maxHeartbeats 2000000 in
theorem WebResponses_walk (ad : Nat → Addr) (a : Option Addr) (n c : Nat) (b : List UInt8) (w : World) (hS : Sb w (.slice a n c) b) (hW : GW w ad) (hb : b.length ≤ 1099511000) :
    Calls Tryz.prog 4 #[.slice a n c] w fun e w' => e = .returned (.bool true) ∧ Up w w' := by
  have HP := Hid.of (show ∀ w2, Up w w2 → Calls Tryz.prog 8 #[.agg #[.int .i64 2, .slice a n c, .int .i64 0, .int .i64 0, .string ⟨#[]⟩, .string ⟨#[]⟩, .string ⟨#[]⟩, .int .i64 0, .slice none 0 0, .slice none 0 0, .slice none 0 0, .int .i64 0, .int .i64 0, .int .i64 0, .slice none 0 0, .slice none 0 0, .slice none 0 0, .int .i64 0]] w2 fun e w' => e = .returned (.bool true) ∧ Up w2 w' from fun w2 h => parses_res ad a n c b w2 (hS.up h) (hW.up h) hb)
  have HK := Hid.of (known_walk ad w hW)
  clear hS hW
  go_enter Tryz.func4, Tryz.ntmps4
  go_wp2_with fail
  refine HK.out.mono ?_
  rintro e w2 ⟨rfl, h9⟩
  have HU2 := Hid.of h9
  clear h9
  dsimp only
  go_wp2_with fail
  refine (HP.out w2 HU2.out).mono ?_
  rintro e w3 ⟨rfl, h9⟩
  have HU3 := Hid.of (HU2.out.trans h9)
  clear h9
  dsimp only
  go_wp2
  go_ret
  exact ⟨rfl, HU3.out⟩
end Go.Proofs.YtabpgpbcnadgcaaGreatDoor
