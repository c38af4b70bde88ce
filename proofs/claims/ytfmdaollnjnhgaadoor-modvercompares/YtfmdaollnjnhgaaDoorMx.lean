import Derived.Test.YtfmdaollnjnhgaaDoorMw
namespace Go.Proofs.YtfmdaollnjnhgaaDoor
open Go.RowKit Go.Shelf TextNum ModNum
theorem vcore_len (l : List UInt8) : (vcore l).length ≤ l.length := by
  unfold vcore tsf
  split
  · rw [List.length_take, List.length_drop]; omega
  · rw [List.length_drop]; omega
theorem vp_ws (l : List UInt8) : (vp l).ws.length ≤ 129 := by
  unfold vp
  cases h : ver l with
  | none => simp [zp]
  | some q =>
    have hl := (ver_len h).1
    unfold ver at h
    split at h
    · cases h
    · split at h
      · injection h with h
        subst h
        simp only [Option.getD_some, vprt]
        split
        · have := pcs_len 46 (bhd 45 (vcore l))
          have := bhd_len 45 (vcore l)
          have := vcore_len l
          omega
        · simp
      · cases h
set_option maxRecDepth 100000 in
set_option maxHeartbeats 1000000 in
theorem Compare_walk (a b : ByteArray) (w : World) (hG : GM w) : Calls Tryd.prog 14 #[.string a, .string b] w fun e w' => e = .returned (.int .i64 (cmpV a.data.toList b.data.toList)) ∧ Up w w' := by
  have HA := Hid.of (partsOf_walk a w hG)
  have HB := fun w' => fun (u : Up w w') => Hid.of (partsOf_walk b w' (hG.up u))
  have HG := Hid.of hG
  have HR : Hid (cmpV a.data.toList b.data.toList = cmpP (vp a.data.toList) (vp b.data.toList)) := rfl
  have hw1 := vp_ws a.data.toList
  have hw2 := vp_ws b.data.toList
  clear hG
  go_enter Tryd.func14, Tryd.ntmps14
  go_wp2_with fail
  refine HA.out.mono ?_
  rintro e w1 ⟨m0, m1, m2, v1, hn1, rfl, hS1, _, u1⟩
  have H1 := Hid.of u1
  have HS1 := Hid.of hS1
  obtain ⟨a1, c1, rfl⟩ := hS1.len
  clear hS1 u1
  generalize hva : vp a.data.toList = va at *
  generalize verE a.data.toList = ea at *
  obtain ⟨na, wa, ia⟩ := va
  simp only at hn1 HS1 hw1
  subst hn1
  clear hva
  dsimp only
  go_wp2_with fail
  refine (HB _ (H1.out.alloc (.cells (pc5 m0 m1 m2 (.slice a1 wa.length c1) ia) 56))).out.mono ?_
  rintro e w2 ⟨n0, n1, n2, v2, hn2, rfl, hS2, _, u2⟩
  have H2 := Hid.of ((H1.out.alloc (.cells (pc5 m0 m1 m2 (.slice a1 wa.length c1) ia) 56)).trans u2)
  have HS2 := Hid.of hS2
  obtain ⟨a2, c2, rfl⟩ := hS2.len
  have hA := (at_new w1 56 (pc5 m0 m1 m2 (.slice a1 wa.length c1) ia).toList).up u2
  have HS1b := Hid.of ((HS1.out.up ((Up.refl w1).alloc (.cells (pc5 m0 m1 m2 (.slice a1 wa.length c1) ia) 56))).up u2)
  clear hS2 u2 HS1
  generalize hvb : vp b.data.toList = vb' at *
  generalize verE b.data.toList = eb at *
  obtain ⟨nb, wb, ib⟩ := vb'
  simp only at hn2 HS2 hw2
  subst hn2
  clear hvb
  have hA2 := hA.up ((Up.refl w2).alloc (.cells (pc5 n0 n1 n2 (.slice a2 wb.length c2) ib) 56))
  have d0 := hA2.cell (i := 0) rfl
  have d1 := hA2.cell (i := 1) rfl
  have d2 := hA2.cell (i := 2) rfl
  have d3 := hA2.cell (i := 3) rfl
  have d4 := hA2.cell (i := 4) rfl
  have HU := (Up.refl w2).alloc (.cells (pc5 n0 n1 n2 (.slice a2 wb.length c2) ib) 56)
  have HC := Hid.of (compareParts_walk m0 m1 m2 n0 n1 n2 _ _ wa wb ia ib _ (HG.out.up (H2.out.trans HU)) (HS1b.out.up HU) (HS2.out.up HU) (by omega) (by omega))
  have H3 := Hid.of (H2.out.trans HU)
  clear hA hA2 HU
  dsimp only
  go_wp2_with fail
  refine (HC.out).mono ?_
  rintro e w4 ⟨rfl, u4⟩
  have H4 := Hid.of (H3.out.trans u4)
  have Hu4 := Hid.of u4
  clear u4
  dsimp only
  go_wp2
  go_ret
  rw [HR.out]
  exact ⟨rfl, H4.out⟩
end Go.Proofs.YtfmdaollnjnhgaaDoor
