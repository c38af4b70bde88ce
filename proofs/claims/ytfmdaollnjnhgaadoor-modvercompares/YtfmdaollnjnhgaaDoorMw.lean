import Derived.Test.YtfmdaollnjnhgaaDoorMv
namespace Go.Proofs.YtfmdaollnjnhgaaDoor
open Go.RowKit Go.Shelf TextNum ModNum
theorem cmp3_step {a b : List (List UInt8)} {i : Nat} {x y : List UInt8} (hx : a[i]? = some x) (hy : b[i]? = some y) : cmp3 (a.drop i) (b.drop i) = if cmpU x y = 0 then cmp3 (a.drop (i + 1)) (b.drop (i + 1)) else cmpU x y := by
  obtain ⟨h1, e1⟩ := List.getElem?_eq_some_iff.1 hx
  obtain ⟨h2, e2⟩ := List.getElem?_eq_some_iff.1 hy
  rw [List.drop_eq_getElem_cons h1, List.drop_eq_getElem_cons h2, e1, e2]
  rfl
theorem pc_get {n0 n1 n2 : List UInt8} {v : Value} {inc : Bool} {i : Nat} (hi : i < 3) : ∃ x, [n0, n1, n2][i]? = some x ∧ (pc5 n0 n1 n2 v inc).toList[i]? = some (.string ⟨x.toArray⟩) := by
  obtain rfl | rfl | rfl : i = 0 ∨ i = 1 ∨ i = 2 := by omega
  · exact ⟨n0, rfl, rfl⟩
  · exact ⟨n1, rfl, rfl⟩
  · exact ⟨n2, rfl, rfl⟩
set_option maxRecDepth 100000 in
set_option maxHeartbeats 2000000 in
theorem compareParts_walk (m0 m1 m2 n0 n1 n2 : List UInt8) (v1 v2 : Value) (xs ys : List (List UInt8)) (i1 i2 : Bool) (w : World) (hG : GM w) (h1 : SlS w v1 xs) (h2 : SlS w v2 ys) (hl1 : xs.length ≤ 1048576) (hl2 : ys.length ≤ 1048576) :
    Calls Tryd.prog 33 #[.agg (pc5 m0 m1 m2 v1 i1), .agg (pc5 n0 n1 n2 v2 i2)] w fun e w' => e = .returned (.int .i64 (cmpP ⟨[m0, m1, m2], xs, i1⟩ ⟨[n0, n1, n2], ys, i2⟩)) ∧ Up w w' := by
  have HG := Hid.of hG
  have HS1 := Hid.of h1
  have HS2 := Hid.of h2
  obtain ⟨a1, c1, rfl⟩ := h1.len
  obtain ⟨a2, c2, rfl⟩ := h2.len
  clear hG h1 h2
  have HA1 : Hid (At ((w.alloc (.cells (pc5 m0 m1 m2 (.slice a1 xs.length c1) i1) 56)).alloc (.cells (pc5 n0 n1 n2 (.slice a2 ys.length c2) i2) 56)) w.heap.size 56 (pc5 m0 m1 m2 (.slice a1 xs.length c1) i1).toList) := At.up (at_new w 56 (pc5 m0 m1 m2 (.slice a1 xs.length c1) i1).toList) ((Up.refl _).alloc _)
  have HA2 : Hid (At ((w.alloc (.cells (pc5 m0 m1 m2 (.slice a1 xs.length c1) i1) 56)).alloc (.cells (pc5 n0 n1 n2 (.slice a2 ys.length c2) i2) 56)) (w.heap.size + 1) 56 (pc5 n0 n1 n2 (.slice a2 ys.length c2) i2).toList) := by
    have := at_new (w.alloc (.cells (pc5 m0 m1 m2 (.slice a1 xs.length c1) i1) 56)) 56 (pc5 n0 n1 n2 (.slice a2 ys.length c2) i2).toList
    rw [alloc_size] at this
    exact this
  have HU0 : Hid (Up w ((w.alloc (.cells (pc5 m0 m1 m2 (.slice a1 xs.length c1) i1) 56)).alloc (.cells (pc5 n0 n1 n2 (.slice a2 ys.length c2) i2) 56))) := ((Up.refl w).alloc _).alloc _
  go_enter Tryd.func33, Tryd.ntmps33
  go_wp2
  generalize ((w.alloc (.cells (pc5 m0 m1 m2 (.slice a1 xs.length c1) i1) 56)).alloc (.cells (pc5 n0 n1 n2 (.slice a2 ys.length c2) i2) 56)) = W0 at *
  go_loopw [5, 6, 7] (fun _ _ v7 wr => ∃ i : Nat, v7 = .int .i64 (i : Int) ∧ i ≤ 3 ∧ Hid (cmp3 [m0, m1, m2] [n0, n1, n2] = cmp3 ([m0, m1, m2].drop i) ([n0, n1, n2].drop i) ∧ Up W0 wr)) (fun _ _ v7 _ => 3 - (intOf v7).toNat)
  case atStart => exact ⟨0, rfl, by omega, rfl, Up.refl _⟩
  case round =>
    obtain ⟨i, rfl, hi, hI⟩ := hrel
    obtain ⟨wb, hwb⟩ : ∃ wb, wb = wr := ⟨_, rfl⟩
    subst hwb
    by_cases hlt : i < 3
    · have hltz : (i : Int) < 3 := by omega
      obtain ⟨x, hx, hx2⟩ := pc_get (n0 := m0) (n1 := m1) (n2 := m2) (v := .slice a1 xs.length c1) (inc := i1) hlt
      obtain ⟨y, hy, hy2⟩ := pc_get (n0 := n0) (n1 := n1) (n2 := n2) (v := .slice a2 ys.length c2) (inc := i2) hlt
      have hcx := (HA1.out.up hI.out.2).cell hx2
      have hcy := (HA2.out.up hI.out.2).cell hy2
      have HE := Hid.of (hI.out.1.trans (cmp3_step hx hy))
      have HC := fun w' => Hid.of (compareNumbers_walk ⟨x.toArray⟩ ⟨y.toArray⟩ w')
      rw [ba_data, ba_data] at HC
      have HX := Hid.of (And.intro hcx hcy)
      clear hx hx2 hy hy2
      go_wp2_with fail
      go_region_held3 (fun w2 => w2.cell? ⟨w.heap.size, i, none⟩ = some (.string ⟨x.toArray⟩) ∧ w2.cell? ⟨w.heap.size + 1, i, none⟩ = some (.string ⟨y.toArray⟩) ∧ Up wb w2)
        (first
          | exact ⟨hcx, hcy, (Up.refl _).drew⟩
          | exact ⟨(‹Up _ _›).cell (‹_ ∧ _ ∧ Up wb _›).1, (‹Up _ _›).cell (‹_ ∧ _ ∧ Up wb _›).2.1, (‹_ ∧ _ ∧ Up wb _›).2.2.trans ‹Up _ _›⟩)
        (first
          | (go_at_call 54; refine (HC _).out.mono ?_; rintro e w5 ⟨rfl, u5⟩))
      have HU5 := Hid.of (hI.out.2.trans (‹_ ∧ _ ∧ Up wb _›).2.2)
      by_cases hz : cmpU x y = 0
      · have HE2 := Hid.of (HE.out.trans (if_pos hz))
        rw [hz]
        clear hz
        go_wp2
        go_roundw
        case rel => exact ⟨i + 1, by go_num, by omega, HE2.out, HU5.out⟩
        case measure => simp [intOf]; omega
      · have HE2 := Hid.of (HE.out.trans (if_neg hz))
        have hzz : (cmpU x y != 0) = true := by rw [bne_iff_ne]; exact hz
        have HR := Hid.of (show cmpP ⟨[m0, m1, m2], xs, i1⟩ ⟨[n0, n1, n2], ys, i2⟩ = cmpU x y by
          show (if cmp3 [m0, m1, m2] [n0, n1, n2] = 0 then cmpWs xs ys else cmp3 [m0, m1, m2] [n0, n1, n2]) = _
          rw [HE2.out, if_neg hz])
        generalize cmpU x y = cu at *
        clear hz
        go_wp2
        go_ret
        rw [HR.out]
        exact ⟨rfl, HU0.out.trans HU5.out⟩
    · have hltz : ¬ (i : Int) < 3 := by omega
      have h3 : i = 3 := by omega
      have HR := Hid.of (show cmpP ⟨[m0, m1, m2], xs, i1⟩ ⟨[n0, n1, n2], ys, i2⟩ = cmpWs xs ys by
        have h2 := hI.out.1
        rw [h3] at h2
        have h4 : cmp3 [m0, m1, m2] [n0, n1, n2] = 0 := h2
        show (if cmp3 [m0, m1, m2] [n0, n1, n2] = 0 then cmpWs xs ys else cmp3 [m0, m1, m2] [n0, n1, n2]) = _
        rw [if_pos h4])
      have hc1 := (HA1.out.up hI.out.2).cell (i := 3) rfl
      have hc2 := (HA2.out.up hI.out.2).cell (i := 3) rfl
      have HO := Hid.of (orderI_walk ys.length xs.length wb)
      have HC := Hid.of (CompareFunc_walk _ _ xs ys wb (HG.out.up (HU0.out.trans hI.out.2)) (HS1.out.up (HU0.out.trans hI.out.2)) (HS2.out.up (HU0.out.trans hI.out.2)) hl1 hl2)
      clear h3 hi hlt
      by_cases hx0 : xs.length = 0
      · have hx0z : ((xs.length : Int) == 0) = true := by rw [beq_iff_eq]; omega
        have HW := Hid.of (show cmpWs xs ys = cmpN ys.length xs.length from if_pos (.inl (List.length_eq_zero_iff.1 hx0)))
        generalize cmpN ys.length xs.length = cn at *
        generalize xs.length = xl at *
        clear hx0
        go_wp2_with fail
        refine (HO.out).mono ?_
        rintro e w9 ⟨rfl, h9⟩
        obtain rfl := h9.symm
        clear h9
        dsimp only
        go_wp2
        go_ret
        rw [HR.out, HW.out]
        exact ⟨rfl, HU0.out.trans hI.out.2⟩
      · have hx0z : ((xs.length : Int) == 0) = false := by rw [beq_eq_false_iff_ne]; omega
        by_cases hy0 : ys.length = 0
        · have hy0z : ((ys.length : Int) == 0) = true := by rw [beq_iff_eq]; omega
          have HW := Hid.of (show cmpWs xs ys = cmpN ys.length xs.length from if_pos (.inr (List.length_eq_zero_iff.1 hy0)))
          generalize cmpN ys.length xs.length = cn at *
          generalize xs.length = xl at *
          generalize ys.length = yl at *
          clear hx0 hy0
          go_wp2_with fail
          refine (HO.out).mono ?_
          rintro e w9 ⟨rfl, h9⟩
          obtain rfl := h9.symm
          clear h9
          dsimp only
          go_wp2
          go_ret
          rw [HR.out, HW.out]
          exact ⟨rfl, HU0.out.trans hI.out.2⟩
        · have hy0z : ((ys.length : Int) == 0) = false := by rw [beq_eq_false_iff_ne]; omega
          have HW := Hid.of (show cmpWs xs ys = cmpL cmpW xs ys from if_neg (by
            rintro (h | h)
            · exact hx0 (by rw [h]; rfl)
            · exact hy0 (by rw [h]; rfl)))
          generalize cmpL cmpW xs ys = cn at *
          generalize xs.length = xl at *
          generalize ys.length = yl at *
          clear hx0 hy0
          go_wp2_with fail
          refine (HC.out).mono ?_
          rintro e w1 ⟨rfl, u1⟩
          have H1 := Hid.of (hI.out.2.trans u1)
          have Hu1 := Hid.of u1
          clear u1
          dsimp only
          go_wp2
          go_ret
          rw [HR.out, HW.out]
          exact ⟨rfl, HU0.out.trans H1.out⟩
end Go.Proofs.YtfmdaollnjnhgaaDoor
