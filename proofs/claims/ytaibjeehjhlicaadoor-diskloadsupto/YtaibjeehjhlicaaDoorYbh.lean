import Derived.Test.YtaibjeehjhlicaaDoorYbg
namespace Go.Proofs.YtaibjeehjhlicaaDoor
open Go.RowKit Go.Shelf TextNum ModNum
/-- what Load answers -/
def ldE (room : Int) (fs : List GF) : Int :=
  if room < 0 ∨ 1099511627776 < room then 1 else if ¬ (∀ g ∈ fs, isNm g.nm.data.toList = true) then 120 else if ¬ (nmsOf fs).Nodup then 122 else if ¬ (((fs.map fun g => g.ds.length).sum : Nat) : Int) ≤ room then 123 else 0
set_option maxRecDepth 100000 in
set_option maxHeartbeats 4000000 in
theorem Load_gen (room : Int) (a : Option Addr) (fs : List GF) (c : Nat) (w : World) (hF : FsL w a fs c) (hlen : fs.length ≤ 1000000) (hG : ML w) (hV : 0 < w.heap.size) :
    Calls Tryd.prog 4 #[.int .i64 room, .slice a fs.length c] w fun e w' => Up w w' ∧ ((ldE room fs ≠ 0 ∧ e = .returned (.tuple #[.pointer none, .int .i64 (ldE room fs)])) ∨ (ldE room fs = 0 ∧ ∃ D s w1, Up w w1 ∧ e = .returned (.tuple #[pv D, .int .i64 0]) ∧ Laid w1 w' D room.toNat fs s)) := by
  have HF := Hid.of hF
  have HG := Hid.of hG
  have HV := Hid.of hV
  have hcap := hF.cap
  clear hF hG hV
  by_cases hr0 : room < 0
  · have HE := Hid.of (show ldE room fs = 1 from if_pos (.inl hr0))
    go_enter Tryd.func4, Tryd.ntmps4
    go_wp2
    go_ret2
    rw [HE.out]
    exact ⟨Up.refl _, .inl ⟨by decide, rfl⟩⟩
  by_cases hr1 : 1099511627776 < room
  · have HE := Hid.of (show ldE room fs = 1 from if_pos (.inr hr1))
    go_enter Tryd.func4, Tryd.ntmps4
    go_wp2
    go_ret2
    rw [HE.out]
    exact ⟨Up.refl _, .inl ⟨by decide, rfl⟩⟩
  obtain ⟨rm, rfl⟩ : ∃ rm : Nat, room = rm := ⟨room.toNat, by omega⟩
  have HE0 := Hid.of (show ldE rm fs = if ¬ (∀ g ∈ fs, isNm g.nm.data.toList = true) then 120 else if ¬ (nmsOf fs).Nodup then 122 else if ¬ (((fs.map fun g => g.ds.length).sum : Nat) : Int) ≤ rm then 123 else 0 from if_neg (by omega))
  go_enter Tryd.func4, Tryd.ntmps4
  go_wp2
  go_loopw [7, 16] (fun _ v16 wr => ∃ j : Nat, v16 = .int .i64 (j : Int) ∧ j ≤ fs.length ∧ Hid (Up w wr ∧ ∀ g ∈ fs.take j, isNm g.nm.data.toList = true)) (fun _ v16 _ => fs.length - (intOf v16).toNat)
  case atStart => exact ⟨0, rfl, by omega, Hid.of ⟨Up.refl _, fun g hg => by cases hg⟩⟩
  case round =>
    obtain ⟨j, rfl, hj, hQ⟩ := hrel
    have HU := Hid.of hQ.out.1
    have HA := Hid.of hQ.out.2
    clear hQ
    by_cases hjl : j < fs.length
    · have hjz : (j : Int) < (fs.length : Int) := by omega
      obtain ⟨b, off, rfl, k1, k2⟩ := (HF.out.up HU.out).cells j hjl
      have HSb := Hid.of ((HF.out.up HU.out).sb fs[j] (List.getElem_mem hjl))
      have HR := Hid.of (range2 k1 k2)
      have HT := Hid.of (show isNm fs[j].nm.data.toList = true → ∀ g ∈ fs.take (j + 1), isNm g.nm.data.toList = true from fun h g hg => by
        rw [List.take_succ_eq_append_getElem hjl] at hg
        rcases List.mem_append.1 hg with hg | hg
        · exact HA.out g hg
        · obtain rfl := List.mem_singleton.1 hg
          exact h)
      have HNo := Hid.of (show isNm fs[j].nm.data.toList = false → ldE rm fs = 120 from fun h => HE0.out.trans (if_pos (fun hall => by rw [hall fs[j] (List.getElem_mem hjl)] at h; cases h)))
      obtain ⟨g, hg⟩ : ∃ g, fs[j] = g := ⟨_, rfl⟩
      rw [hg] at HSb HR HT HNo
      clear k1 k2 hg
      obtain ⟨ag, cg, hvg, _⟩ := id HSb.out
      have HVG := Hid.of hvg
      clear hvg
      go_wp2_with (with_reducible show wpList _ _ _ ({ dst := _, op := Op.indexAddr 30 _ _, type := _, pos := _, after := _, guard := _ } :: _) _ _; refine Shut.out ?_)
      show wpList _ _ _ _ _ _
      refine wpList_val7' (.pointer (some ⟨b, off + j * 2, none⟩)) rfl (exec_idxFile j hjl rfl rfl rfl) ?_
      simp only [Act.put, List.setIfInBounds_toArray, List.set_cons_zero, List.set_cons_succ]
      refine wpList_load_mid rfl _ _ rfl b (off + j * 2) rfl [.string g.nm, g.v] _ HR.out Tryd.underlying29 rfl infoFile ?_
      simp only [Act.put, List.setIfInBounds_toArray, List.set_cons_zero, List.set_cons_succ]
      go_wp2_with (with_reducible show wpList _ _ _ ({ dst := _, op := Op.store 29 _ _, type := _, pos := _, after := _, guard := _ } :: _) _ _; refine Shut.out ?_)
      show wpList _ _ _ _ _ _
      refine wpList_store_at rfl 29 _ _ rfl wr.heap.size (at_new wr 29 [.string ⟨#[]⟩, .slice none 0 0]) [.string g.nm, g.v] rfl rfl rfl infoFile (all2 rfl (by rw [HVG.out]; rfl)) ?_
      intro w4 hA4 hg4
      have hU4 := ((Up.refl wr).alloc (.cells [.string ⟨#[]⟩, .slice none 0 0].toArray 29)).by hg4 (fun g hg => by have := Option.some.inj hg; omega)
      have HU4 := Hid.of (HU.out.trans hU4)
      have c0 := hA4.cell (i := 0) rfl
      have HIs := Hid.of (isName_walk g.nm w4 (HG.out.up HU4.out))
      generalize wr.heap.size = bo at *
      clear hA4 hg4 HR hU4
      simp only [Act.put]
      cases hn : isNm g.nm.data.toList with
      | false =>
        rw [hn] at HIs
        have HEr := Hid.of (HNo.out hn)
        clear hn
        go_wp2_with fail
        refine HIs.out.mono ?_
        rintro e w5 ⟨rfl, u5⟩
        have HU5 := Hid.of (HU4.out.trans u5)
        clear u5 c0
        dsimp only
        go_wp2
        go_ret2
        rw [HEr.out]
        exact ⟨HU5.out, .inl ⟨by decide, rfl⟩⟩
      | true =>
        rw [hn] at HIs
        have HTr := Hid.of (HT.out hn)
        clear hn
        go_wp2_with fail
        refine HIs.out.mono ?_
        rintro e w5 ⟨rfl, u5⟩
        have HU5 := Hid.of (HU4.out.trans u5)
        clear u5 c0
        dsimp only
        go_wp2
        go_roundw
        all_goals first
          | exact ⟨j + 1, by go_num, by omega, Hid.of ⟨HU5.out, HTr.out⟩⟩
          | (simp [intOf]; omega)
    · have hjz : ¬ (j : Int) < (fs.length : Int) := by omega
      rw [show fs.take j = fs from List.take_of_length_le (by omega)] at HA
      have HE1 := Hid.of (HE0.out.trans (if_neg (fun h => h HA.out)))
      have HNt := Hid.of (namedTwice_gen a fs c wr (HF.out.up HU.out) HA.out hlen)
      by_cases hnd : (nmsOf fs).Nodup
      · rw [decide_eq_false (fun h => h hnd)] at HNt
        have HE2 := Hid.of (HE1.out.trans (if_neg (fun h => h hnd)))
        have HNd := Hid.of hnd
        clear hnd HE1 HE0
        go_wp2_with fail
        refine HNt.out.mono ?_
        rintro e w5 ⟨rfl, u5⟩
        have HU5 := Hid.of (HU.out.trans u5)
        clear u5 HNt
        dsimp only
        have HFt := Hid.of (fit_gen rm a fs c w5 (HF.out.up HU5.out) (by omega) hlen)
        by_cases hft : (fs.map fun g => g.ds.length).sum ≤ rm
        · rw [decide_eq_true hft] at HFt
          have HE3 := Hid.of (HE2.out.trans (if_neg (by omega)))
          have HFi := Hid.of hft
          clear hft HE2
          go_wp2_with fail
          refine HFt.out.mono ?_
          rintro e w6 ⟨rfl, u6⟩
          have HU6 := Hid.of (HU5.out.trans u6)
          clear u6 HFt
          dsimp only
          have HLa := Hid.of (laid_gen rm a fs c w6 (HF.out.up HU6.out) HA.out HNd.out (by have := HFi.out; omega) hlen (by omega) (HG.out.up HU6.out) (Nat.lt_of_lt_of_le HV.out HU6.out.size))
          go_wp2_with fail
          refine HLa.out.mono ?_
          rintro e w7 ⟨D, s, rfl, hL⟩
          have HL := Hid.of hL
          clear hL HLa
          dsimp only
          go_wp2
          go_ret2
          exact ⟨HU6.out.trans HL.out.up, .inr ⟨HE3.out, D, s, w6, HU6.out, rfl, HL.out⟩⟩
        · rw [decide_eq_false hft] at HFt
          have HE3 := Hid.of (HE2.out.trans (if_pos (by omega)))
          clear hft HE2
          go_wp2_with fail
          refine HFt.out.mono ?_
          rintro e w6 ⟨rfl, u6⟩
          have HU6 := Hid.of (HU5.out.trans u6)
          clear u6 HFt
          dsimp only
          go_wp2
          go_ret2
          rw [HE3.out]
          exact ⟨HU6.out, .inl ⟨by decide, rfl⟩⟩
      · rw [decide_eq_true hnd] at HNt
        have HE2 := Hid.of (HE1.out.trans (if_pos hnd))
        clear hnd HE1 HE0
        go_wp2_with fail
        refine HNt.out.mono ?_
        rintro e w5 ⟨rfl, u5⟩
        have HU5 := Hid.of (HU.out.trans u5)
        clear u5 HNt
        dsimp only
        go_wp2
        go_ret2
        rw [HE2.out]
        exact ⟨HU5.out, .inl ⟨by decide, rfl⟩⟩
end Go.Proofs.YtaibjeehjhlicaaDoor
