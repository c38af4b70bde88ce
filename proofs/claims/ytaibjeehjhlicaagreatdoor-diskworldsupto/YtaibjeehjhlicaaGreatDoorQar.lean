import Derived.Test.YtaibjeehjhlicaaGreatDoorQbk
namespace Go.Proofs.YtaibjeehjhlicaaGreatDoor
open Go.RowKit Go.Shelf TextNum ModNum
/-- what Load answers -/
def ldE (room : Int) (fs : List GF) : Int :=
  if room < 0 ∨ 1099511627776 < room then 1 else if ¬ (∀ g ∈ fs, isNm g.nm.data.toList = true) then 120 else if ¬ (nmsOf fs).Nodup then 122 else if ¬ (((fs.map fun g => g.ds.length).sum : Nat) : Int) ≤ room then 123 else 0
set_option maxRecDepth 100000 in
set_option maxHeartbeats 4000000 in
theorem Load_gen (room : Int) (a : Option Addr) (fs : List GF) (c : Nat) (w : World) (hF : FsL w a fs c) (hlen : fs.length ≤ 1000000) (hG : ML w) (hV : 0 < w.heap.size) :
    Calls Tryz.prog 50 #[.int .i64 room, .slice a fs.length c] w fun e w' => Up w w' ∧ ((ldE room fs ≠ 0 ∧ e = .returned (.tuple #[.pointer none, .int .i64 (ldE room fs)])) ∨ (ldE room fs = 0 ∧ ∃ D s w1, Up w w1 ∧ e = .returned (.tuple #[pv D, .int .i64 0]) ∧ Laid w1 w' D room.toNat fs s)) := by
  have HF := Hid.of hF
  have HG := Hid.of hG
  have HV := Hid.of hV
  have hcap := hF.cap
  clear hF hG hV
  by_cases hr0 : room < 0
  · have HE := Hid.of (show ldE room fs = 1 from if_pos (.inl hr0))
    go_enter Tryz.func50, Tryz.ntmps50
    go_wp2
    go_ret2
    rw [HE.out]
    exact ⟨Up.refl _, .inl ⟨by decide, rfl⟩⟩
  by_cases hr1 : 1099511627776 < room
  · have HE := Hid.of (show ldE room fs = 1 from if_pos (.inr hr1))
    go_enter Tryz.func50, Tryz.ntmps50
    go_wp2
    go_ret2
    rw [HE.out]
    exact ⟨Up.refl _, .inl ⟨by decide, rfl⟩⟩
  obtain ⟨rm, rfl⟩ : ∃ rm : Nat, room = rm := ⟨room.toNat, by omega⟩
  have HE0 := Hid.of (show ldE rm fs = if ¬ (∀ g ∈ fs, isNm g.nm.data.toList = true) then 120 else if ¬ (nmsOf fs).Nodup then 122 else if ¬ (((fs.map fun g => g.ds.length).sum : Nat) : Int) ≤ rm then 123 else 0 from if_neg (by omega))
  go_enter Tryz.func50, Tryz.ntmps50
  go_wp2
  go_loopw [7, 16] (fun _ v16 wr => ∃ j : Nat, v16 = .int .i64 (j : Int) ∧ j ≤ fs.length ∧ Hid (Up w wr ∧ ∀ g ∈ fs.take j, isNm g.nm.data.toList = true)) (fun _ v16 _ => fs.length - (intOf v16).toNat)
  case atStart => exact ⟨0, rfl, by omega, Hid.of ⟨Up.refl _, fun g hg => by cases hg⟩⟩
  case round =>
    obtain ⟨j, rfl, hj, hQ⟩ := hrel
    have HU := Hid.of hQ.out.1
    have HA := Hid.of hQ.out.2
    clear hQ
    by_cases hjl : j < fs.length
    · have hjz : (j : Int) < (fs.length : Int) := by omega
      obtain ⟨b, off, rfl, k1, k2⟩ := (HF.out.up HU.out).cells j hjl
      have HSb := Hid.of ((HF.out.up HU.out).sb fs[j] (List.getElem_mem hjl))
      have HR := Hid.of (range2 k1 k2)
      have HT := Hid.of (show isNm fs[j].nm.data.toList = true → ∀ g ∈ fs.take (j + 1), isNm g.nm.data.toList = true from fun h g hg => by
        rw [List.take_succ_eq_append_getElem hjl] at hg
        rcases List.mem_append.1 hg with hg | hg
        · exact HA.out g hg
        · obtain rfl := List.mem_singleton.1 hg
          exact h)
      have HNo := Hid.of (show isNm fs[j].nm.data.toList = false → ldE rm fs = 120 from fun h => HE0.out.trans (if_pos (fun hall => by rw [hall fs[j] (List.getElem_mem hjl)] at h; cases h)))
      obtain ⟨g, hg⟩ : ∃ g, fs[j] = g := ⟨_, rfl⟩
      rw [hg] at HSb HR HT HNo
      clear k1 k2 hg
      obtain ⟨ag, cg, hvg, _⟩ := id HSb.out
      have HVG := Hid.of hvg
      clear hvg
      go_wp2_with (with_reducible show wpList _ _ _ ({ dst := _, op := Op.indexAddr 32 _ _, type := _, pos := _, after := _, guard := _ } :: _) _ _; refine Shut.out ?_)
      show wpList _ _ _ _ _ _
      refine wpList_val7' (.pointer (some ⟨b, off + j * 2, none⟩)) rfl (exec_idxFile j hjl rfl rfl rfl) ?_
      simp only [Act.put, List.setIfInBounds_toArray, List.set_cons_zero, List.set_cons_succ]
      refine wpList_load_mid rfl _ _ rfl b (off + j * 2) rfl [.string g.nm, g.v] _ HR.out Tryz.underlying49 rfl infoFile ?_
      simp only [Act.put, List.setIfInBounds_toArray, List.set_cons_zero, List.set_cons_succ]
      go_wp2_with (with_reducible show wpList _ _ _ ({ dst := _, op := Op.store 49 _ _, type := _, pos := _, after := _, guard := _ } :: _) _ _; refine Shut.out ?_)
      show wpList _ _ _ _ _ _
      refine wpList_store_at rfl 49 _ _ rfl wr.heap.size (at_new wr 49 [.string ⟨#[]⟩, .slice none 0 0]) [.string g.nm, g.v] rfl rfl rfl infoFile (all2 rfl (by rw [HVG.out]; rfl)) ?_
      intro w4 hA4 hg4
      have hU4 := ((Up.refl wr).alloc (.cells [.string ⟨#[]⟩, .slice none 0 0].toArray 49)).by hg4 (fun g hg => by have := Option.some.inj hg; omega)
      have HU4 := Hid.of (HU.out.trans hU4)
      have c0 := hA4.cell (i := 0) rfl
      have HIs := Hid.of (isName_walk g.nm w4 (HG.out.up HU4.out))
      generalize wr.heap.size = bo at *
      clear hA4 hg4 HR hU4
      simp only [Act.put]
      cases hn : isNm g.nm.data.toList with
      | false =>
        rw [hn] at HIs
        have HEr := Hid.of (HNo.out hn)
        clear hn
        go_wp2_with fail
        refine HIs.out.mono ?_
        rintro e w5 ⟨rfl, u5⟩
        have HU5 := Hid.of (HU4.out.trans u5)
        clear u5 c0
        dsimp only
        go_wp2
        go_ret2
        rw [HEr.out]
        exact ⟨HU5.out, .inl ⟨by decide, rfl⟩⟩
      | true =>
        rw [hn] at HIs
        have HTr := Hid.of (HT.out hn)
        clear hn
        go_wp2_with fail
        refine HIs.out.mono ?_
        rintro e w5 ⟨rfl, u5⟩
        have HU5 := Hid.of (HU4.out.trans u5)
        clear u5 c0
        dsimp only
        go_wp2
        go_roundw
        all_goals first
          | exact ⟨j + 1, by go_num, by omega, Hid.of ⟨HU5.out, HTr.out⟩⟩
          | (simp [intOf]; omega)
    · have hjz : ¬ (j : Int) < (fs.length : Int) := by omega
      rw [show fs.take j = fs from List.take_of_length_le (by omega)] at HA
      have HE1 := Hid.of (HE0.out.trans (if_neg (fun h => h HA.out)))
      have HNt := Hid.of (namedTwice_gen a fs c wr (HF.out.up HU.out) HA.out hlen)
      by_cases hnd : (nmsOf fs).Nodup
      · rw [decide_eq_false (fun h => h hnd)] at HNt
        have HE2 := Hid.of (HE1.out.trans (if_neg (fun h => h hnd)))
        have HNd := Hid.of hnd
        clear hnd HE1 HE0
        go_wp2_with fail
        refine HNt.out.mono ?_
        rintro e w5 ⟨rfl, u5⟩
        have HU5 := Hid.of (HU.out.trans u5)
        clear u5 HNt
        dsimp only
        have HFt := Hid.of (fit_gen rm a fs c w5 (HF.out.up HU5.out) (by omega) hlen)
        by_cases hft : (fs.map fun g => g.ds.length).sum ≤ rm
        · rw [decide_eq_true hft] at HFt
          have HE3 := Hid.of (HE2.out.trans (if_neg (by omega)))
          have HFi := Hid.of hft
          clear hft HE2
          go_wp2_with fail
          refine HFt.out.mono ?_
          rintro e w6 ⟨rfl, u6⟩
          have HU6 := Hid.of (HU5.out.trans u6)
          clear u6 HFt
          dsimp only
          have HLa := Hid.of (laid_gen rm a fs c w6 (HF.out.up HU6.out) HA.out HNd.out (by have := HFi.out; omega) hlen (by omega) (HG.out.up HU6.out) (Nat.lt_of_lt_of_le HV.out HU6.out.size))
          go_wp2_with fail
          refine HLa.out.mono ?_
          rintro e w7 ⟨D, s, rfl, hL⟩
          have HL := Hid.of hL
          clear hL HLa
          dsimp only
          go_wp2
          go_ret2
          exact ⟨HU6.out.trans HL.out.up, .inr ⟨HE3.out, D, s, w6, HU6.out, rfl, HL.out⟩⟩
        · rw [decide_eq_false hft] at HFt
          have HE3 := Hid.of (HE2.out.trans (if_pos (by omega)))
          clear hft HE2
          go_wp2_with fail
          refine HFt.out.mono ?_
          rintro e w6 ⟨rfl, u6⟩
          have HU6 := Hid.of (HU5.out.trans u6)
          clear u6 HFt
          dsimp only
          go_wp2
          go_ret2
          rw [HE3.out]
          exact ⟨HU6.out, .inl ⟨by decide, rfl⟩⟩
      · rw [decide_eq_true hnd] at HNt
        have HE2 := Hid.of (HE1.out.trans (if_pos hnd))
        clear hnd HE1 HE0
        go_wp2_with fail
        refine HNt.out.mono ?_
        rintro e w5 ⟨rfl, u5⟩
        have HU5 := Hid.of (HU.out.trans u5)
        clear u5 HNt
        dsimp only
        go_wp2
        go_ret2
        rw [HE2.out]
        exact ⟨HU5.out, .inl ⟨by decide, rfl⟩⟩
end Go.Proofs.YtaibjeehjhlicaaGreatDoor
namespace Go.Proofs.YtaibjeehjhlicaaGreatDoor
open Go.RowKit Go.Shelf TextNum ModNum
/-- a list of ints that is read -/
def Sint (w : World) (v : Value) (cs : List Int) : Prop :=
  ∃ a c, v = .slice a cs.length c ∧ cs.length ≤ c ∧ ∀ i (h : i < cs.length), ∃ b off, a = some ⟨b, off, none⟩ ∧ w.cell? ⟨b, off + i, none⟩ = some (.int .i64 cs[i])
theorem Sint.up {w w' : World} {v : Value} {cs : List Int} (h : Sint w v cs) (k : Up w w') : Sint w' v cs := by
  obtain ⟨a, c, e, h1, h2⟩ := h
  exact ⟨a, c, e, h1, fun i hi => by obtain ⟨b, off, e1, e2⟩ := h2 i hi; exact ⟨b, off, e1, k.cell e2⟩⟩
/-- the choice number k, of 0 to most -/
def cz (cs : List Int) (k most : Nat) : Nat := if h : k < cs.length then (cs[k] % ((most : Int) + 1)).toNat else 0
theorem cz_le (cs : List Int) (k most : Nat) : cz cs k most ≤ most := by
  unfold cz
  split
  · have := Int.emod_lt_of_pos cs[k] (show (0 : Int) < (most : Int) + 1 by omega)
    have := Int.emod_nonneg cs[k] (show (most : Int) + 1 ≠ 0 by omega)
    omega
  · omega
/-- the chooser behind k calls -/
structure CH (w : World) (bn bc : Nat) (cs : List Int) (k : Nat) : Prop where
  nx : At w bn 3 [.int .i64 ((min k cs.length : Nat) : Int)]
  cv : ∃ v, At w bc 23 [v] ∧ Sint w v cs ∧ v.ownBlock ≠ some bn ∧ ∀ g, v.ownBlock = some g → g < bc
theorem CH.up {w w' : World} {bn bc k : Nat} {cs : List Int} (h : CH w bn bc cs k) (u : Up w w') : CH w' bn bc cs k := by
  obtain ⟨v, h1, h2, h3⟩ := h.cv
  exact ⟨h.nx.up u, v, h1.up u, h2.up u, h3⟩
theorem Sint.by {w w' : World} {v : Value} {cs : List Int} {row : Option Nat} (h : Sint w v cs) (g : w.grownBy w' row) (hr : ∀ k, v.ownBlock = some k → row ≠ some k) : Sint w' v cs := by
  obtain ⟨a, c, rfl, h1, h2⟩ := h
  refine ⟨a, c, rfl, h1, fun i hi => ?_⟩
  obtain ⟨b, off, rfl, h3⟩ := h2 i hi
  exact ⟨b, off, rfl, g.cell h3 (fun e => hr b rfl e.symm)⟩
theorem CH.by {w w' : World} {bn bc k N : Nat} {cs : List Int} {row : Option Nat} (h : CH w bn bc cs k) (g : w.grownBy w' row) (hr : ∀ k, row = some k → N ≤ k) (hn : bn < N) (hc : bc < N) : CH w' bn bc cs k := by
  obtain ⟨v, h1, h2, h3, h4⟩ := h.cv
  refine ⟨h.nx.by g (fun e => by have := hr _ e; omega), v, h1.by g (fun e => by have := hr _ e; omega), h2.by g (fun k hk e => by have := hr _ e; have := h4 k hk; omega), h3, h4⟩
abbrev chv (bn bc : Nat) : Value := .func (.func 101) #[] #[pv bn, pv bc]
theorem tmod_emod (c m : Int) (hm : 0 < m) : (if c.tmod m < 0 then c.tmod m + m else c.tmod m) = c % m := by
  have h1 := Int.emod_nonneg c (show m ≠ 0 by omega)
  have h2 := Int.emod_lt_of_pos c hm
  rw [Int.tmod_eq_emod]
  have hs : (m.natAbs : Int) = m := by omega
  split <;> (split <;> omega)
set_option maxRecDepth 100000 in
set_option maxHeartbeats 2000000 in
theorem chooser1_walk (bn bc k most : Nat) (cs : List Int) (w : World) (h : CH w bn bc cs k) (hm : most ≤ 1099511627776) (hl : cs.length ≤ 1152921504606846976) :
    Calls Tryz.prog 101 #[.int .i64 (most : Int), pv bn, pv bc] w fun e w' => e = .returned (.int .i64 ((cz cs k most : Nat) : Int)) ∧ CH w' bn bc cs (k + 1) ∧ w.grownBy w' (some bn) := by
  have c1 := h.nx.cell (i := 0) rfl
  have t1 := h.nx.thaw 0
  obtain ⟨v, hv, hS, hne, hlow⟩ := h.cv
  have HLow := Hid.of hlow
  have HCv := Hid.of hv
  have HS := Hid.of hS
  have HNx := Hid.of h.nx
  have HNe := Hid.of hne
  obtain ⟨a, c, rfl, hc, hcell⟩ := hS
  have c2 := hv.cell (i := 0) rfl
  have HCell := Hid.of hcell
  clear h hv hcell hne hlow
  by_cases hk : k < cs.length
  · have hmin : min k cs.length = k := by omega
    rw [hmin] at c1 HNx
    obtain ⟨b, off, rfl, k3⟩ := HCell.out k hk
    have hke : ((k : Int) == (cs.length : Int)) = false := by rw [beq_eq_false_iff_ne]; omega
    have hkz : (k : Int) < (cs.length : Int) := by omega
    have hcz : (cs.length : Int) ≤ (c : Int) := by omega
    have HR := Hid.of (show ((cz cs k most : Nat) : Int) = (if cs[k].tmod ((most : Int) + 1) < 0 then cs[k].tmod ((most : Int) + 1) + ((most : Int) + 1) else cs[k].tmod ((most : Int) + 1)) by
      rw [tmod_emod _ _ (by omega)]
      unfold cz
      rw [dif_pos hk]
      have := Int.emod_nonneg cs[k] (show (most : Int) + 1 ≠ 0 by omega)
      omega)
    have hA1 := HNx.out.set 0 (.int .i64 ((k : Int) + 1))
    have hg1 := grown_at w bn 0 (.int .i64 ((k : Int) + 1))
    have HP := Hid.of (show CH (w.setCell ⟨bn, 0, none⟩ (.int .i64 ((k : Int) + 1))) bn bc cs (k + 1) ∧ w.grownBy (w.setCell ⟨bn, 0, none⟩ (.int .i64 ((k : Int) + 1))) (some bn) from ⟨⟨by
        rw [show min (k + 1) cs.length = k + 1 by omega]
        exact hA1, _, HCv.out.by hg1 (fun e => HNx.out.ne HCv.out (by decide) (Option.some.inj e)), by
        obtain ⟨a2, c2, e2, h1, h2⟩ := HS.out
        refine ⟨a2, c2, e2, h1, fun i hi => ?_⟩
        obtain ⟨b2, off2, e3, h3⟩ := h2 i hi
        refine ⟨b2, off2, e3, hg1.cell h3 (fun e => HNe.out ?_)⟩
        rw [e2, e3]
        exact e, HNe.out, HLow.out⟩, hg1⟩)
    obtain ⟨x, hx⟩ : ∃ x, cs[k] = x := ⟨_, rfl⟩
    rw [hx] at k3 HR
    have hb1 := Int.tmod_lt_of_pos x (show (0 : Int) < (most : Int) + 1 by omega)
    have hb2 : -((most : Int) + 1) < x.tmod ((most : Int) + 1) := by
      have h3 := Int.tmod_lt_of_pos (-x) (show (0 : Int) < (most : Int) + 1 by omega)
      rw [Int.neg_tmod] at h3
      omega
    have hm0 : (((most : Int) + 1) == 0) = false := by rw [beq_eq_false_iff_ne]; omega
    generalize hr : x.tmod ((most : Int) + 1) = r at *
    clear hA1 hg1 hx
    by_cases hneg : r < 0
    · rw [if_pos hneg] at HR
      go_enter Tryz.func101, Tryz.ntmps101
      go_wp2
      go_ret
      rw [HR.out]
      exact ⟨by first | rfl | (congr 3; omega), HP.out⟩
    · rw [if_neg hneg] at HR
      go_enter Tryz.func101, Tryz.ntmps101
      go_wp2
      go_ret
      rw [HR.out]
      exact ⟨rfl, HP.out⟩
  · have hmin : min k cs.length = cs.length := by omega
    rw [hmin] at c1 HNx
    have HR := Hid.of (show cz cs k most = 0 from dif_neg hk)
    have HP := Hid.of (show CH w bn bc cs (k + 1) from ⟨by rw [show min (k + 1) cs.length = cs.length by omega]; exact HNx.out, _, HCv.out, HS.out, HNe.out, HLow.out⟩)
    go_enter Tryz.func101, Tryz.ntmps101
    go_wp2
    go_ret
    rw [HR.out]
    exact ⟨rfl, HP.out, grown_refl _ _⟩
set_option maxRecDepth 100000 in
set_option maxHeartbeats 1000000 in
theorem chooser_walk (v : Value) (cs : List Int) (w : World) (h : Sint w v cs) (hv : ∀ g, v.ownBlock = some g → g < w.heap.size) : Calls Tryz.prog 62 #[v] w fun e w' => ∃ bn bc, e = .returned (chv bn bc) ∧ CH w' bn bc cs 0 ∧ w.heap.size ≤ bn ∧ w.heap.size ≤ bc ∧ Up w w' := by
  have HS := Hid.of h
  have HV := Hid.of hv
  obtain ⟨a, c, rfl, _⟩ := h
  have HB := Hid.of (at_new w 23 [.slice a cs.length c])
  have hb := at_new (w.alloc (.cells [.slice a cs.length c].toArray 23)) 3 [.int .i64 0]
  rw [alloc_size] at hb
  have HN := Hid.of hb
  have HU := Hid.of (((Up.refl w).alloc (.cells [.slice a cs.length c].toArray 23)).alloc (.cells [.int .i64 0].toArray 3))
  have HB2 := Hid.of (HB.out.up ((Up.refl _).alloc (.cells [.int .i64 0].toArray 3)))
  clear hb hv
  go_enter Tryz.func62, Tryz.ntmps62
  go_wp2
  go_ret
  exact ⟨w.heap.size + 1, w.heap.size, rfl, ⟨by rw [Nat.zero_min]; exact HN.out, _, HB2.out, HS.out.up HU.out, (fun e => by have := HV.out _ e; omega), fun g hg => HV.out g hg⟩, by omega, by omega, HU.out⟩
end Go.Proofs.YtaibjeehjhlicaaGreatDoor
