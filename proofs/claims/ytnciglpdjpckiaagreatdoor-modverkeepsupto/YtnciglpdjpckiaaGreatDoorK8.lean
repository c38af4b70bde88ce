import Derived.Test.YtnciglpdjpckiaaGreatDoorMu
namespace Go.Proofs.YtnciglpdjpckiaaGreatDoor
open Go.RowKit Go.Shelf TextNum ModNum
set_option maxRecDepth 100000 in
theorem Or_walk (x y : Int) (b : Nat) (w : World) (h0 : w.cell? ⟨b, 0, none⟩ = some (.int .i64 x)) (h1 : w.cell? ⟨b, 1, none⟩ = some (.int .i64 y)) : Calls Tryz.prog 47 #[.slice (some ⟨b, 0, none⟩) 2 2] w fun e w' => e = .returned (.int .i64 (if x = 0 then y else x)) ∧ w' = w := by
  go_enter Tryz.func47, Tryz.ntmps47
  go_wp2
  go_loopw [5, 8] (fun _ v8 wr => ∃ i : Nat, v8 = .int .i64 (i : Int) ∧ i ≤ 2 ∧ wr = w ∧ Hid ((0 < i → x = 0) ∧ (1 < i → y = 0))) (fun _ v8 _ => 2 - (intOf v8).toNat)
  case atStart => exact ⟨0, rfl, by omega, rfl, by omega, by omega⟩
  case round =>
    obtain ⟨i, rfl, hi, hwr, hI⟩ := hrel
    obtain rfl : w = wr := hwr.symm
    clear hwr
    obtain rfl | rfl | rfl : i = 0 ∨ i = 1 ∨ i = 2 := by omega
    · by_cases hx : x = 0
      · subst hx
        go_wp2
        go_roundw
        case rel => exact ⟨1, by go_num, by omega, by simp, by simp, by omega⟩
        case measure => simp [intOf]
      · have hxz : (x != 0) = true := by rw [bne_iff_ne]; exact hx
        have HX := Hid.of hx
        clear hx
        go_wp2
        go_ret
        first | exact ⟨rfl, rfl⟩ | exact ⟨rfl, trivial⟩
    · have hx := hI.out.1 (by omega)
      subst hx
      by_cases hy : y = 0
      · subst hy
        go_wp2
        go_roundw
        case rel => exact ⟨2, by go_num, by omega, by simp, by simp, by simp⟩
        case measure => simp [intOf]
      · have hyz : (y != 0) = true := by rw [bne_iff_ne]; exact hy
        have HX := Hid.of hy
        clear hy
        go_wp2
        go_ret
        first | exact ⟨rfl, rfl⟩ | exact ⟨rfl, trivial⟩ | (rw [if_pos rfl]; exact ⟨rfl, rfl⟩)
    · have hx := hI.out.1 (by omega)
      have hy := hI.out.2 (by omega)
      subst hx hy
      go_wp2
      go_ret
      first | exact ⟨rfl, rfl⟩ | exact ⟨rfl, trivial⟩
set_option maxRecDepth 100000 in
theorem compareNumbers_walk (a b : ByteArray) (w : World) : Calls Tryz.prog 90 #[.string a, .string b] w fun e w' => e = .returned (.int .i64 (cmpU a.data.toList b.data.toList)) ∧ Up w w' := by
  have H1 := fun w' => Hid.of (orderI_walk a.size b.size w')
  have H2 := fun w' => Hid.of (orderS_walk a b w')
  have HR : Hid (cmpU a.data.toList b.data.toList = if cmpN a.size b.size = 0 then cmpB a.data.toList b.data.toList else cmpN a.size b.size) := by unfold cmpU; rw [len_of, len_of]; rfl
  generalize cmpN a.size b.size = x at *
  generalize cmpB a.data.toList b.data.toList = y at *
  have H3 := Hid.of (Or_walk x y w.heap.size (w.alloc (.cells #[.int .i64 x, .int .i64 y] 3)) (by rw [World.cell?_alloc_at _ _ _ _ rfl]; rfl) (by rw [World.cell?_alloc_at _ _ _ _ rfl]; rfl))
  generalize (if x = 0 then y else x) = r at *
  go_enter Tryz.func90, Tryz.ntmps90
  go_wp2_with fail
  refine ((H1 _).out).mono ?_
  rintro e w9 ⟨rfl, h9⟩
  obtain rfl := h9.symm
  clear h9
  dsimp only
  go_wp2_with fail
  refine ((H2 _).out).mono ?_
  rintro e w9 ⟨rfl, h9⟩
  obtain rfl := h9.symm
  clear h9
  dsimp only
  go_wp2_with fail
  refine H3.out.mono ?_
  rintro e w9 ⟨rfl, h9⟩
  have HU : Hid (Up w w9) := by rw [h9]; exact (Up.refl w).alloc _
  clear h9
  dsimp only
  go_wp2
  go_ret
  rw [HR.out]
  exact ⟨rfl, HU.out⟩
set_option maxRecDepth 100000 in
theorem compareWords_walk (a b : ByteArray) (w : World) (hG : GM w) : Calls Tryz.prog 93 #[.string a, .string b] w fun e w' => e = .returned (.int .i64 (cmpW a.data.toList b.data.toList)) ∧ Up w w' := by
  have HA := Hid.of (isNumber_walk a w hG)
  have HB := fun w' => fun (u : Up w w') => Hid.of (isNumber_walk b w' (hG.up u))
  have HU := fun w' => Hid.of (compareNumbers_walk a b w')
  have HS := fun w' => Hid.of (orderS_walk a b w')
  have HR : Hid (cmpW a.data.toList b.data.toList = if isNum a.data.toList then (if isNum b.data.toList then cmpU a.data.toList b.data.toList else -1) else if isNum b.data.toList then 1 else cmpB a.data.toList b.data.toList) := rfl
  clear hG
  generalize cmpU a.data.toList b.data.toList = x at *
  generalize cmpB a.data.toList b.data.toList = y at *
  generalize isNum a.data.toList = na at *
  generalize isNum b.data.toList = nb at *
  cases na with
  | true =>
    cases nb with
    | true =>
      go_enter Tryz.func93, Tryz.ntmps93
      go_wp2_with fail
      refine (HA.out).mono ?_
      rintro e w1 ⟨rfl, u1⟩
      have H1 := Hid.of (u1)
      have Hu1 := Hid.of u1
      clear u1
      dsimp only
      go_wp2_with fail
      refine ((HB _ H1.out).out).mono ?_
      rintro e w2 ⟨rfl, u2⟩
      have H2 := Hid.of (H1.out.trans u2)
      have Hu2 := Hid.of u2
      clear u2
      dsimp only
      go_wp2_with fail
      refine ((HU _).out).mono ?_
      rintro e w3 ⟨rfl, u3⟩
      have H3 := Hid.of (H2.out.trans u3)
      have Hu3 := Hid.of u3
      clear u3
      dsimp only
      go_wp2
      go_ret
      rw [HR.out]
      exact ⟨rfl, H3.out⟩
    | false =>
      go_enter Tryz.func93, Tryz.ntmps93
      go_wp2_with fail
      refine (HA.out).mono ?_
      rintro e w1 ⟨rfl, u1⟩
      have H1 := Hid.of (u1)
      have Hu1 := Hid.of u1
      clear u1
      dsimp only
      go_wp2_with fail
      refine ((HB _ H1.out).out).mono ?_
      rintro e w2 ⟨rfl, u2⟩
      have H2 := Hid.of (H1.out.trans u2)
      have Hu2 := Hid.of u2
      clear u2
      dsimp only
      go_wp2
      go_ret
      rw [HR.out]
      exact ⟨rfl, H2.out⟩
  | false =>
    cases nb with
    | true =>
      go_enter Tryz.func93, Tryz.ntmps93
      go_wp2_with fail
      refine (HA.out).mono ?_
      rintro e w1 ⟨rfl, u1⟩
      have H1 := Hid.of (u1)
      have Hu1 := Hid.of u1
      clear u1
      dsimp only
      go_wp2_with fail
      refine ((HB _ H1.out).out).mono ?_
      rintro e w2 ⟨rfl, u2⟩
      have H2 := Hid.of (H1.out.trans u2)
      have Hu2 := Hid.of u2
      clear u2
      dsimp only
      go_wp2
      go_ret
      rw [HR.out]
      exact ⟨rfl, H2.out⟩
    | false =>
      go_enter Tryz.func93, Tryz.ntmps93
      go_wp2_with fail
      refine (HA.out).mono ?_
      rintro e w1 ⟨rfl, u1⟩
      have H1 := Hid.of (u1)
      have Hu1 := Hid.of u1
      clear u1
      dsimp only
      go_wp2_with fail
      refine ((HB _ H1.out).out).mono ?_
      rintro e w2 ⟨rfl, u2⟩
      have H2 := Hid.of (H1.out.trans u2)
      have Hu2 := Hid.of u2
      clear u2
      dsimp only
      go_wp2_with fail
      refine ((HS _).out).mono ?_
      rintro e w9 ⟨rfl, h9⟩
      obtain rfl := h9.symm
      clear h9
      dsimp only
      go_wp2
      go_ret
      rw [HR.out]
      exact ⟨rfl, H2.out⟩
set_option maxRecDepth 100000 in
set_option maxHeartbeats 1000000 in
theorem CompareFunc_walk (v1 v2 : Value) (xs ys : List (List UInt8)) (w : World) (hG : GM w) (h1 : SlS w v1 xs) (h2 : SlS w v2 ys) (hl1 : xs.length ≤ 1048576) (_hl2 : ys.length ≤ 1048576) :
    Calls Tryz.prog 92 #[v1, v2, .func (.func 93) #[] #[]] w fun e w' => e = .returned (.int .i64 (cmpL cmpW xs ys)) ∧ Up w w' := by
  have HG := Hid.of hG
  have HS1 := Hid.of h1
  have HS2 := Hid.of h2
  obtain ⟨a1, c1, rfl⟩ := h1.len
  obtain ⟨a2, c2, rfl⟩ := h2.len
  clear hG h1 h2
  go_enter Tryz.func92, Tryz.ntmps92
  go_wp2
  go_loopw [7, 8, 9, 10, 13] (fun _ _ _ _ v13 wr => ∃ i : Nat, v13 = .int .i64 (i : Int) ∧ i ≤ xs.length ∧ Hid (i ≤ ys.length ∧ cmpL cmpW xs ys = cmpL cmpW (xs.drop i) (ys.drop i) ∧ Up w wr)) (fun _ _ _ _ v13 _ => xs.length - (intOf v13).toNat)
  case atStart => exact ⟨0, rfl, by omega, Nat.zero_le _, rfl, Up.refl _⟩
  case round =>
    obtain ⟨i, rfl, hi, hI⟩ := hrel
    by_cases hlt : i < xs.length
    · have hltz : (i : Int) < (xs.length : Int) := by omega
      obtain ⟨b1, o1, rfl, hc1⟩ := (HS1.out.up hI.out.2.2).get hlt
      by_cases hlt2 : i < ys.length
      · have hlt2z : ¬ (ys.length : Int) ≤ (i : Int) := by omega
        have hlt2y : (i : Int) < (ys.length : Int) := by omega
        obtain ⟨b2, o2, rfl, hc2⟩ := (HS2.out.up hI.out.2.2).get hlt2
        have HW := Hid.of (compareWords_walk ⟨xs[i].toArray⟩ ⟨ys[i].toArray⟩ wr (HG.out.up hI.out.2.2))
        rw [ba_data, ba_data] at HW
        have HE := Hid.of (show cmpL cmpW xs ys = if cmpW xs[i] ys[i] = 0 then cmpL cmpW (xs.drop (i + 1)) (ys.drop (i + 1)) else cmpW xs[i] ys[i] by
          rw [hI.out.2.1, List.drop_eq_getElem_cons hlt, List.drop_eq_getElem_cons hlt2]; rfl)
        generalize xs[i] = x at *
        generalize ys[i] = y at *
        by_cases hz : cmpW x y = 0
        · rw [hz] at HW
          have HE2 := Hid.of (HE.out.trans (if_pos hz))
          clear hz
          go_wp2_with fail
          refine (HW.out).mono ?_
          rintro e w1 ⟨rfl, u1⟩
          have H1 := Hid.of (hI.out.2.2.trans u1)
          have Hu1 := Hid.of u1
          clear u1
          dsimp only
          go_wp2
          go_roundw
          case rel => exact ⟨i + 1, by go_num, by omega, hlt2, HE2.out, H1.out⟩
          case measure => simp [intOf]; omega
        · have HE2 := Hid.of (HE.out.trans (if_neg hz))
          have hzz : (cmpW x y != 0) = true := by rw [bne_iff_ne]; exact hz
          generalize cmpW x y = cw at *
          clear hz
          go_wp2_with fail
          refine (HW.out).mono ?_
          rintro e w1 ⟨rfl, u1⟩
          have H1 := Hid.of (hI.out.2.2.trans u1)
          have Hu1 := Hid.of u1
          clear u1
          dsimp only
          go_wp2
          go_ret
          rw [HE2.out]
          exact ⟨rfl, H1.out⟩
      · have hlt2z : (ys.length : Int) ≤ (i : Int) := by omega
        have HE := Hid.of (show cmpL cmpW xs ys = 1 by
          rw [hI.out.2.1, List.drop_eq_getElem_cons hlt, List.drop_eq_nil_of_le (show ys.length ≤ i by omega)]; rfl)
        go_wp2
        go_ret
        rw [HE.out]
        exact ⟨rfl, hI.out.2.2⟩
    · have hltz : ¬ (i : Int) < (xs.length : Int) := by omega
      have hia : i = xs.length := by omega
      by_cases hl : xs.length < ys.length
      · have hlz : (xs.length : Int) < (ys.length : Int) := by omega
        have HE := Hid.of (show cmpL cmpW xs ys = -1 by
          rw [hI.out.2.1, List.drop_eq_nil_of_le (show xs.length ≤ i by omega), List.drop_eq_getElem_cons (show i < ys.length by omega)]; rfl)
        clear hia
        go_wp2
        go_ret
        rw [HE.out]
        exact ⟨rfl, hI.out.2.2⟩
      · have hlz : ¬ (xs.length : Int) < (ys.length : Int) := by omega
        have HE := Hid.of (show cmpL cmpW xs ys = 0 by
          rw [hI.out.2.1, List.drop_eq_nil_of_le (show xs.length ≤ i by omega), List.drop_eq_nil_of_le (show ys.length ≤ i by omega)]; rfl)
        clear hia
        go_wp2
        go_ret
        rw [HE.out]
        exact ⟨rfl, hI.out.2.2⟩
end Go.Proofs.YtnciglpdjpckiaaGreatDoor
namespace Go.Proofs.YtnciglpdjpckiaaGreatDoor
open Go.RowKit Go.Shelf TextNum ModNum
theorem cmp3_step {a b : List (List UInt8)} {i : Nat} {x y : List UInt8} (hx : a[i]? = some x) (hy : b[i]? = some y) : cmp3 (a.drop i) (b.drop i) = if cmpU x y = 0 then cmp3 (a.drop (i + 1)) (b.drop (i + 1)) else cmpU x y := by
  obtain ⟨h1, e1⟩ := List.getElem?_eq_some_iff.1 hx
  obtain ⟨h2, e2⟩ := List.getElem?_eq_some_iff.1 hy
  rw [List.drop_eq_getElem_cons h1, List.drop_eq_getElem_cons h2, e1, e2]
  rfl
theorem pc_get {n0 n1 n2 : List UInt8} {v : Value} {inc : Bool} {i : Nat} (hi : i < 3) : ∃ x, [n0, n1, n2][i]? = some x ∧ (pc5 n0 n1 n2 v inc).toList[i]? = some (.string ⟨x.toArray⟩) := by
  obtain rfl | rfl | rfl : i = 0 ∨ i = 1 ∨ i = 2 := by omega
  · exact ⟨n0, rfl, rfl⟩
  · exact ⟨n1, rfl, rfl⟩
  · exact ⟨n2, rfl, rfl⟩
set_option maxRecDepth 100000 in
set_option maxHeartbeats 2000000 in
theorem compareParts_walk (m0 m1 m2 n0 n1 n2 : List UInt8) (v1 v2 : Value) (xs ys : List (List UInt8)) (i1 i2 : Bool) (w : World) (hG : GM w) (h1 : SlS w v1 xs) (h2 : SlS w v2 ys) (hl1 : xs.length ≤ 1048576) (hl2 : ys.length ≤ 1048576) :
    Calls Tryz.prog 49 #[.agg (pc5 m0 m1 m2 v1 i1), .agg (pc5 n0 n1 n2 v2 i2)] w fun e w' => e = .returned (.int .i64 (cmpP ⟨[m0, m1, m2], xs, i1⟩ ⟨[n0, n1, n2], ys, i2⟩)) ∧ Up w w' := by
  have HG := Hid.of hG
  have HS1 := Hid.of h1
  have HS2 := Hid.of h2
  obtain ⟨a1, c1, rfl⟩ := h1.len
  obtain ⟨a2, c2, rfl⟩ := h2.len
  clear hG h1 h2
  have HA1 : Hid (At ((w.alloc (.cells (pc5 m0 m1 m2 (.slice a1 xs.length c1) i1) 54)).alloc (.cells (pc5 n0 n1 n2 (.slice a2 ys.length c2) i2) 54)) w.heap.size 54 (pc5 m0 m1 m2 (.slice a1 xs.length c1) i1).toList) := At.up (at_new w 54 (pc5 m0 m1 m2 (.slice a1 xs.length c1) i1).toList) ((Up.refl _).alloc _)
  have HA2 : Hid (At ((w.alloc (.cells (pc5 m0 m1 m2 (.slice a1 xs.length c1) i1) 54)).alloc (.cells (pc5 n0 n1 n2 (.slice a2 ys.length c2) i2) 54)) (w.heap.size + 1) 54 (pc5 n0 n1 n2 (.slice a2 ys.length c2) i2).toList) := by
    have := at_new (w.alloc (.cells (pc5 m0 m1 m2 (.slice a1 xs.length c1) i1) 54)) 54 (pc5 n0 n1 n2 (.slice a2 ys.length c2) i2).toList
    rw [alloc_size] at this
    exact this
  have HU0 : Hid (Up w ((w.alloc (.cells (pc5 m0 m1 m2 (.slice a1 xs.length c1) i1) 54)).alloc (.cells (pc5 n0 n1 n2 (.slice a2 ys.length c2) i2) 54))) := ((Up.refl w).alloc _).alloc _
  go_enter Tryz.func49, Tryz.ntmps49
  go_wp2
  generalize ((w.alloc (.cells (pc5 m0 m1 m2 (.slice a1 xs.length c1) i1) 54)).alloc (.cells (pc5 n0 n1 n2 (.slice a2 ys.length c2) i2) 54)) = W0 at *
  go_loopw [5, 6, 7] (fun _ _ v7 wr => ∃ i : Nat, v7 = .int .i64 (i : Int) ∧ i ≤ 3 ∧ Hid (cmp3 [m0, m1, m2] [n0, n1, n2] = cmp3 ([m0, m1, m2].drop i) ([n0, n1, n2].drop i) ∧ Up W0 wr)) (fun _ _ v7 _ => 3 - (intOf v7).toNat)
  case atStart => exact ⟨0, rfl, by omega, rfl, Up.refl _⟩
  case round =>
    obtain ⟨i, rfl, hi, hI⟩ := hrel
    obtain ⟨wb, hwb⟩ : ∃ wb, wb = wr := ⟨_, rfl⟩
    subst hwb
    by_cases hlt : i < 3
    · have hltz : (i : Int) < 3 := by omega
      obtain ⟨x, hx, hx2⟩ := pc_get (n0 := m0) (n1 := m1) (n2 := m2) (v := .slice a1 xs.length c1) (inc := i1) hlt
      obtain ⟨y, hy, hy2⟩ := pc_get (n0 := n0) (n1 := n1) (n2 := n2) (v := .slice a2 ys.length c2) (inc := i2) hlt
      have hcx := (HA1.out.up hI.out.2).cell hx2
      have hcy := (HA2.out.up hI.out.2).cell hy2
      have HE := Hid.of (hI.out.1.trans (cmp3_step hx hy))
      have HC := fun w' => Hid.of (compareNumbers_walk ⟨x.toArray⟩ ⟨y.toArray⟩ w')
      rw [ba_data, ba_data] at HC
      have HX := Hid.of (And.intro hcx hcy)
      clear hx hx2 hy hy2
      go_wp2_with fail
      go_region_held3 (fun w2 => w2.cell? ⟨w.heap.size, i, none⟩ = some (.string ⟨x.toArray⟩) ∧ w2.cell? ⟨w.heap.size + 1, i, none⟩ = some (.string ⟨y.toArray⟩) ∧ Up wb w2)
        (first
          | exact ⟨hcx, hcy, (Up.refl _).drew⟩
          | exact ⟨(‹Up _ _›).cell (‹_ ∧ _ ∧ Up wb _›).1, (‹Up _ _›).cell (‹_ ∧ _ ∧ Up wb _›).2.1, (‹_ ∧ _ ∧ Up wb _›).2.2.trans ‹Up _ _›⟩)
        (first
          | (go_at_call 90; refine (HC _).out.mono ?_; rintro e w5 ⟨rfl, u5⟩))
      have HU5 := Hid.of (hI.out.2.trans (‹_ ∧ _ ∧ Up wb _›).2.2)
      by_cases hz : cmpU x y = 0
      · have HE2 := Hid.of (HE.out.trans (if_pos hz))
        rw [hz]
        clear hz
        go_wp2
        go_roundw
        case rel => exact ⟨i + 1, by go_num, by omega, HE2.out, HU5.out⟩
        case measure => simp [intOf]; omega
      · have HE2 := Hid.of (HE.out.trans (if_neg hz))
        have hzz : (cmpU x y != 0) = true := by rw [bne_iff_ne]; exact hz
        have HR := Hid.of (show cmpP ⟨[m0, m1, m2], xs, i1⟩ ⟨[n0, n1, n2], ys, i2⟩ = cmpU x y by
          show (if cmp3 [m0, m1, m2] [n0, n1, n2] = 0 then cmpWs xs ys else cmp3 [m0, m1, m2] [n0, n1, n2]) = _
          rw [HE2.out, if_neg hz])
        generalize cmpU x y = cu at *
        clear hz
        go_wp2
        go_ret
        rw [HR.out]
        exact ⟨rfl, HU0.out.trans HU5.out⟩
    · have hltz : ¬ (i : Int) < 3 := by omega
      have h3 : i = 3 := by omega
      have HR := Hid.of (show cmpP ⟨[m0, m1, m2], xs, i1⟩ ⟨[n0, n1, n2], ys, i2⟩ = cmpWs xs ys by
        have h2 := hI.out.1
        rw [h3] at h2
        have h4 : cmp3 [m0, m1, m2] [n0, n1, n2] = 0 := h2
        show (if cmp3 [m0, m1, m2] [n0, n1, n2] = 0 then cmpWs xs ys else cmp3 [m0, m1, m2] [n0, n1, n2]) = _
        rw [if_pos h4])
      have hc1 := (HA1.out.up hI.out.2).cell (i := 3) rfl
      have hc2 := (HA2.out.up hI.out.2).cell (i := 3) rfl
      have HO := Hid.of (orderI_walk ys.length xs.length wb)
      have HC := Hid.of (CompareFunc_walk _ _ xs ys wb (HG.out.up (HU0.out.trans hI.out.2)) (HS1.out.up (HU0.out.trans hI.out.2)) (HS2.out.up (HU0.out.trans hI.out.2)) hl1 hl2)
      clear h3 hi hlt
      by_cases hx0 : xs.length = 0
      · have hx0z : ((xs.length : Int) == 0) = true := by rw [beq_iff_eq]; omega
        have HW := Hid.of (show cmpWs xs ys = cmpN ys.length xs.length from if_pos (.inl (List.length_eq_zero_iff.1 hx0)))
        generalize cmpN ys.length xs.length = cn at *
        generalize xs.length = xl at *
        clear hx0
        go_wp2_with fail
        refine (HO.out).mono ?_
        rintro e w9 ⟨rfl, h9⟩
        obtain rfl := h9.symm
        clear h9
        dsimp only
        go_wp2
        go_ret
        rw [HR.out, HW.out]
        exact ⟨rfl, HU0.out.trans hI.out.2⟩
      · have hx0z : ((xs.length : Int) == 0) = false := by rw [beq_eq_false_iff_ne]; omega
        by_cases hy0 : ys.length = 0
        · have hy0z : ((ys.length : Int) == 0) = true := by rw [beq_iff_eq]; omega
          have HW := Hid.of (show cmpWs xs ys = cmpN ys.length xs.length from if_pos (.inr (List.length_eq_zero_iff.1 hy0)))
          generalize cmpN ys.length xs.length = cn at *
          generalize xs.length = xl at *
          generalize ys.length = yl at *
          clear hx0 hy0
          go_wp2_with fail
          refine (HO.out).mono ?_
          rintro e w9 ⟨rfl, h9⟩
          obtain rfl := h9.symm
          clear h9
          dsimp only
          go_wp2
          go_ret
          rw [HR.out, HW.out]
          exact ⟨rfl, HU0.out.trans hI.out.2⟩
        · have hy0z : ((ys.length : Int) == 0) = false := by rw [beq_eq_false_iff_ne]; omega
          have HW := Hid.of (show cmpWs xs ys = cmpL cmpW xs ys from if_neg (by
            rintro (h | h)
            · exact hx0 (by rw [h]; rfl)
            · exact hy0 (by rw [h]; rfl)))
          generalize cmpL cmpW xs ys = cn at *
          generalize xs.length = xl at *
          generalize ys.length = yl at *
          clear hx0 hy0
          go_wp2_with fail
          refine (HC.out).mono ?_
          rintro e w1 ⟨rfl, u1⟩
          have H1 := Hid.of (hI.out.2.trans u1)
          have Hu1 := Hid.of u1
          clear u1
          dsimp only
          go_wp2
          go_ret
          rw [HR.out, HW.out]
          exact ⟨rfl, HU0.out.trans H1.out⟩
end Go.Proofs.YtnciglpdjpckiaaGreatDoor
namespace Go.Proofs.YtnciglpdjpckiaaGreatDoor
open Go.RowKit Go.Shelf TextNum ModNum
theorem vcore_len (l : List UInt8) : (vcore l).length ≤ l.length := by
  unfold vcore tsf
  split
  · rw [List.length_take, List.length_drop]; omega
  · rw [List.length_drop]; omega
theorem vp_ws (l : List UInt8) : (vp l).ws.length ≤ 129 := by
  unfold vp
  cases h : ver l with
  | none => simp [zp]
  | some q =>
    have hl := (ver_len h).1
    unfold ver at h
    split at h
    · cases h
    · split at h
      · injection h with h
        subst h
        simp only [Option.getD_some, vprt]
        split
        · have := pcs_len 46 (bhd 45 (vcore l))
          have := bhd_len 45 (vcore l)
          have := vcore_len l
          omega
        · simp
      · cases h
set_option maxRecDepth 100000 in
set_option maxHeartbeats 1000000 in
theorem Compare_walk (a b : ByteArray) (w : World) (hG : GM w) : Calls Tryz.prog 24 #[.string a, .string b] w fun e w' => e = .returned (.int .i64 (cmpV a.data.toList b.data.toList)) ∧ Up w w' := by
  have HA := Hid.of (partsOf_walk a w hG)
  have HB := fun w' => fun (u : Up w w') => Hid.of (partsOf_walk b w' (hG.up u))
  have HG := Hid.of hG
  have HR : Hid (cmpV a.data.toList b.data.toList = cmpP (vp a.data.toList) (vp b.data.toList)) := rfl
  have hw1 := vp_ws a.data.toList
  have hw2 := vp_ws b.data.toList
  clear hG
  go_enter Tryz.func24, Tryz.ntmps24
  go_wp2_with fail
  refine HA.out.mono ?_
  rintro e w1 ⟨m0, m1, m2, v1, hn1, rfl, hS1, _, u1⟩
  have H1 := Hid.of u1
  have HS1 := Hid.of hS1
  obtain ⟨a1, c1, rfl⟩ := hS1.len
  clear hS1 u1
  generalize hva : vp a.data.toList = va at *
  generalize verE a.data.toList = ea at *
  obtain ⟨na, wa, ia⟩ := va
  simp only at hn1 HS1 hw1
  subst hn1
  clear hva
  dsimp only
  go_wp2_with fail
  refine (HB _ (H1.out.alloc (.cells (pc5 m0 m1 m2 (.slice a1 wa.length c1) ia) 54))).out.mono ?_
  rintro e w2 ⟨n0, n1, n2, v2, hn2, rfl, hS2, _, u2⟩
  have H2 := Hid.of ((H1.out.alloc (.cells (pc5 m0 m1 m2 (.slice a1 wa.length c1) ia) 54)).trans u2)
  have HS2 := Hid.of hS2
  obtain ⟨a2, c2, rfl⟩ := hS2.len
  have hA := (at_new w1 54 (pc5 m0 m1 m2 (.slice a1 wa.length c1) ia).toList).up u2
  have HS1b := Hid.of ((HS1.out.up ((Up.refl w1).alloc (.cells (pc5 m0 m1 m2 (.slice a1 wa.length c1) ia) 54))).up u2)
  clear hS2 u2 HS1
  generalize hvb : vp b.data.toList = vb' at *
  generalize verE b.data.toList = eb at *
  obtain ⟨nb, wb, ib⟩ := vb'
  simp only at hn2 HS2 hw2
  subst hn2
  clear hvb
  have hA2 := hA.up ((Up.refl w2).alloc (.cells (pc5 n0 n1 n2 (.slice a2 wb.length c2) ib) 54))
  have d0 := hA2.cell (i := 0) rfl
  have d1 := hA2.cell (i := 1) rfl
  have d2 := hA2.cell (i := 2) rfl
  have d3 := hA2.cell (i := 3) rfl
  have d4 := hA2.cell (i := 4) rfl
  have HU := (Up.refl w2).alloc (.cells (pc5 n0 n1 n2 (.slice a2 wb.length c2) ib) 54)
  have HC := Hid.of (compareParts_walk m0 m1 m2 n0 n1 n2 _ _ wa wb ia ib _ (HG.out.up (H2.out.trans HU)) (HS1b.out.up HU) (HS2.out.up HU) (by omega) (by omega))
  have H3 := Hid.of (H2.out.trans HU)
  clear hA hA2 HU
  dsimp only
  go_wp2_with fail
  refine (HC.out).mono ?_
  rintro e w4 ⟨rfl, u4⟩
  have H4 := Hid.of (H3.out.trans u4)
  have Hu4 := Hid.of u4
  clear u4
  dsimp only
  go_wp2
  go_ret
  rw [HR.out]
  exact ⟨rfl, H4.out⟩
end Go.Proofs.YtnciglpdjpckiaaGreatDoor
namespace Go.Proofs.YtnciglpdjpckiaaGreatDoor
open Go.RowKit Go.Shelf TextNum ModNum
structure Ord {α : Type} (f : α → α → Int) : Prop where
  val : ∀ a b, f a b = -1 ∨ f a b = 0 ∨ f a b = 1
  anti : ∀ a b, f b a = - f a b
  tr : ∀ a b c, f a b ≤ 0 → f b c ≤ 0 → f a c ≤ 0 ∧ (f a c = 0 → f a b = 0 ∧ f b c = 0)
theorem Ord.refl {α : Type} {f : α → α → Int} (h : Ord f) (a : α) : f a a = 0 := by
  have := h.anti a a
  omega
theorem Ord.zero {α : Type} {f : α → α → Int} (h : Ord f) {a b c : α} (h1 : f a b = 0) (h2 : f b c = 0) : f a c = 0 := by
  have h3 := (h.tr a b c (by omega) (by omega)).1
  have h4 := h.anti a b
  have h5 := h.anti b c
  have h6 := (h.tr c b a (by omega) (by omega)).1
  have h7 := h.anti a c
  omega
theorem ord_N : Ord cmpN := by
  refine ⟨fun a b => ?_, fun a b => ?_, fun a b c => ?_⟩
  · unfold cmpN
    (repeat' split) <;> simp
  · unfold cmpN
    (repeat' split) <;> first | omega | rfl
  · unfold cmpN
    (repeat' split) <;> omega
theorem Ord.pull {α β : Type} {f : α → α → Int} (h : Ord f) (g : β → α) : Ord (fun a b => f (g a) (g b)) := ⟨fun _ _ => h.val _ _, fun _ _ => h.anti _ _, fun _ _ _ => h.tr _ _ _⟩
theorem Ord.lex {α : Type} {f g : α → α → Int} (hf : Ord f) (hg : Ord g) : Ord (fun a b => if f a b = 0 then g a b else f a b) := by
  refine ⟨fun a b => ?_, fun a b => ?_, fun a b c => ?_⟩
  · split
    · exact hg.val a b
    · exact hf.val a b
  · have h1 := hf.anti a b
    have h2 := hg.anti a b
    by_cases h : f a b = 0
    · rw [if_pos h, if_pos (by omega)]; exact h2
    · rw [if_neg h, if_neg (by omega)]; exact h1
  · have t1 := hf.tr a b c
    have t2 := hg.tr a b c
    have z1 := fun h1 h2 => hf.zero (a := a) (b := b) (c := c) h1 h2
    by_cases h1 : f a b = 0
    · rw [if_pos h1]
      by_cases h2 : f b c = 0
      · rw [if_pos h2, if_pos (z1 h1 h2)]
        exact t2
      · rw [if_neg h2]
        intro h3 h4
        obtain ⟨h5, h6⟩ := t1 (by omega) (by omega)
        have h7 : f a c ≠ 0 := fun h => h2 (h6 h).2
        rw [if_neg h7]
        exact ⟨h5, fun h => absurd h h7⟩
    · rw [if_neg h1]
      intro h3 h4
      have h8 : f b c ≤ 0 := by
        by_cases h2 : f b c = 0
        · omega
        · rw [if_neg h2] at h4; exact h4
      obtain ⟨h5, h6⟩ := t1 h3 h8
      have h7 : f a c ≠ 0 := fun h => h1 (h6 h).1
      rw [if_neg h7]
      exact ⟨h5, fun h => absurd h h7⟩
/-- lists, by their elements -/
def cmpX {α : Type} (f : α → α → Int) : List α → List α → Int
  | [], [] => 0
  | [], _ :: _ => -1
  | _ :: _, [] => 1
  | a :: l, b :: m => if f a b = 0 then cmpX f l m else f a b
theorem ord_X {α : Type} {f : α → α → Int} (hf : Ord f) : Ord (cmpX f) := by
  refine ⟨?_, ?_, ?_⟩
  · intro a
    induction a with
    | nil => intro b; cases b <;> simp [cmpX]
    | cons x l ih =>
      intro b
      cases b with
      | nil => simp [cmpX]
      | cons y m =>
        unfold cmpX
        split
        · exact ih m
        · exact hf.val x y
  · intro a
    induction a with
    | nil => intro b; cases b <;> simp [cmpX]
    | cons x l ih =>
      intro b
      cases b with
      | nil => simp [cmpX]
      | cons y m =>
        have h1 := hf.anti x y
        unfold cmpX
        by_cases h : f x y = 0
        · rw [if_pos h, if_pos (by omega)]; exact ih m
        · rw [if_neg h, if_neg (by omega)]; exact h1
  · intro a
    induction a with
    | nil =>
      intro b c
      cases b <;> cases c <;> simp [cmpX]
    | cons x l ih =>
      intro b c
      cases b with
      | nil => simp [cmpX]
      | cons y m =>
        cases c with
        | nil => simp [cmpX]
        | cons z n =>
          have t1 := hf.tr x y z
          have z1 := fun h1 h2 => hf.zero (a := x) (b := y) (c := z) h1 h2
          have t2 := ih m n
          unfold cmpX
          by_cases h1 : f x y = 0
          · rw [if_pos h1]
            by_cases h2 : f y z = 0
            · rw [if_pos h2, if_pos (z1 h1 h2)]
              exact t2
            · rw [if_neg h2]
              intro h3 h4
              obtain ⟨h5, h6⟩ := t1 (by omega) (by omega)
              have h7 : f x z ≠ 0 := fun h => h2 (h6 h).2
              rw [if_neg h7]
              exact ⟨h5, fun h => absurd h h7⟩
          · rw [if_neg h1]
            intro h3 h4
            have h8 : f y z ≤ 0 := by
              by_cases h2 : f y z = 0
              · omega
              · rw [if_neg h2] at h4; exact h4
            obtain ⟨h5, h6⟩ := t1 h3 h8
            have h7 : f x z ≠ 0 := fun h => h1 (h6 h).1
            rw [if_neg h7]
            exact ⟨h5, fun h => absurd h h7⟩
theorem cmpL_X (f : List UInt8 → List UInt8 → Int) : ∀ a b, cmpL f a b = cmpX f a b
  | [], [] => rfl
  | [], _ :: _ => rfl
  | _ :: _, [] => rfl
  | a :: l, b :: m => by unfold cmpL cmpX; rw [cmpL_X f l m]
theorem cmpB_X : ∀ a b : List UInt8, cmpB a b = cmpX (fun x y : UInt8 => cmpN x.toNat y.toNat) a b
  | [], [] => rfl
  | [], _ :: _ => rfl
  | _ :: _, [] => rfl
  | a :: l, b :: m => by
    unfold cmpB cmpX
    rw [cmpB_X l m]
    unfold cmpN
    by_cases h1 : a.toNat < b.toNat
    · simp [h1]
    · by_cases h2 : b.toNat < a.toNat
      · simp [h1, h2]
      · simp [h1, h2]
theorem ord_B : Ord cmpB := by
  rw [show cmpB = cmpX (fun x y : UInt8 => cmpN x.toNat y.toNat) from funext fun a => funext fun b => cmpB_X a b]
  exact ord_X (ord_N.pull UInt8.toNat)
theorem ord_U : Ord cmpU := (ord_N.pull List.length).lex ord_B
theorem ord_W : Ord cmpW := by
  have hU := ord_U
  have hB := ord_B
  refine ⟨fun a b => ?_, fun a b => ?_, fun a b c => ?_⟩
  · have h1 := hU.val a b
    have h2 := hB.val a b
    unfold cmpW
    cases isNum a <;> cases isNum b <;> simp <;> assumption
  · have h1 := hU.anti a b
    have h2 := hB.anti a b
    unfold cmpW
    cases isNum a <;> cases isNum b <;> simp <;> assumption
  · have h1 := hU.tr a b c
    have h2 := hB.tr a b c
    unfold cmpW
    cases isNum a <;> cases isNum b <;> cases isNum c <;> simp <;> first | assumption | (intros; omega) | skip
    all_goals omega
theorem ord_Ws : Ord cmpWs := by
  have hL : Ord (cmpL cmpW) := by
    rw [show cmpL cmpW = cmpX cmpW from funext fun a => funext fun b => cmpL_X _ a b]
    exact ord_X ord_W
  have key : ∀ a b, cmpWs a b = if a = [] then (if b = [] then 0 else 1) else (if b = [] then -1 else cmpL cmpW a b) := by
    intro a b
    unfold cmpWs cmpN
    cases a <;> cases b <;> simp
  refine ⟨fun a b => ?_, fun a b => ?_, fun a b c => ?_⟩
  · have h1 := hL.val a b
    rw [key]
    (repeat' split) <;> first | assumption | simp
  · have h1 := hL.anti a b
    rw [key, key]
    (repeat' split) <;> first | assumption | simp_all
  · have h1 := hL.tr a b c
    rw [key, key, key]
    (repeat' split) <;> first | assumption | (intros; omega) | skip
    all_goals simp_all
theorem cmp3_eq (m0 m1 m2 n0 n1 n2 : List UInt8) : cmp3 [m0, m1, m2] [n0, n1, n2] = if cmpU m0 n0 = 0 then (if cmpU m1 n1 = 0 then cmpU m2 n2 else cmpU m1 n1) else cmpU m0 n0 := by
  simp only [cmp3]
  by_cases h : cmpU m2 n2 = 0
  · rw [if_pos h, h]
  · rw [if_neg h]
/-- numbers and words -/
def v4 (v : Prt) : List UInt8 × List UInt8 × List UInt8 × List (List UInt8) := (v.n.getD 0 [], v.n.getD 1 [], v.n.getD 2 [], v.ws)
def cmp4 (x y : List UInt8 × List UInt8 × List UInt8 × List (List UInt8)) : Int :=
  if (if cmpU x.1 y.1 = 0 then (if cmpU x.2.1 y.2.1 = 0 then cmpU x.2.2.1 y.2.2.1 else cmpU x.2.1 y.2.1) else cmpU x.1 y.1) = 0 then cmpWs x.2.2.2 y.2.2.2 else (if cmpU x.1 y.1 = 0 then (if cmpU x.2.1 y.2.1 = 0 then cmpU x.2.2.1 y.2.2.1 else cmpU x.2.1 y.2.1) else cmpU x.1 y.1)
theorem ord_4 : Ord cmp4 := ((ord_U.pull (fun x : List UInt8 × List UInt8 × List UInt8 × List (List UInt8) => x.1)).lex ((ord_U.pull (fun x : List UInt8 × List UInt8 × List UInt8 × List (List UInt8) => x.2.1)).lex (ord_U.pull (fun x : List UInt8 × List UInt8 × List UInt8 × List (List UInt8) => x.2.2.1)))).lex (ord_Ws.pull (fun x : List UInt8 × List UInt8 × List UInt8 × List (List UInt8) => x.2.2.2))
theorem vp_n (l : List UInt8) : ∃ n0 n1 n2, (vp l).n = [n0, n1, n2] := by
  unfold vp
  cases h : ver l with
  | none => exact ⟨[], [], [], rfl⟩
  | some q =>
    unfold ver at h
    split at h
    · cases h
    · split at h
      · rename_i h3
        injection h with h
        subst h
        simp only [Option.getD_some]
        have hl := h3.1
        match (vprt l).n, hl with
        | [a, b, c], _ => exact ⟨a, b, c, rfl⟩
      · cases h
theorem cmpV_4 (a b : List UInt8) : cmpV a b = cmp4 (v4 (vp a)) (v4 (vp b)) := by
  obtain ⟨m0, m1, m2, h1⟩ := vp_n a
  obtain ⟨n0, n1, n2, h2⟩ := vp_n b
  show cmpP (vp a) (vp b) = _
  unfold cmpP v4 cmp4
  rw [h1, h2, cmp3_eq]
  rfl
theorem ord_V : Ord cmpV := by
  rw [show cmpV = fun a b => cmp4 (v4 (vp a)) (v4 (vp b)) from funext fun a => funext fun b => cmpV_4 a b]
  exact ord_4.pull (fun l => v4 (vp l))
/-- a version's first number has a digit -/
theorem ver_num {l : List UInt8} {q : Prt} (h : ver l = some q) : q.n.length = 3 ∧ vok q = true := by
  unfold ver at h
  split at h
  · cases h
  · split at h
    · rename_i h3
      injection h with h
      subst h
      exact h3
    · cases h
theorem cmpV_no {a b : List UInt8} {q : Prt} (ha : ver a = none) (hb : ver b = some q) : cmpV a b = -1 := by
  obtain ⟨n0, n1, n2, h2⟩ := vp_n b
  have hvb : vp b = q := by unfold vp; rw [hb]; rfl
  have hva : vp a = zp := by unfold vp; rw [ha]; rfl
  rw [hvb] at h2
  have hk := (ver_num hb).2
  unfold vok at hk
  rw [h2] at hk
  simp only [Bool.and_eq_true, List.all_cons] at hk
  have hn0 := hk.1.1.1
  have hlen : 0 < n0.length := by
    unfold isNum at hn0
    simp only [Bool.and_eq_true, Bool.or_eq_true, beq_iff_eq, decide_eq_true_eq] at hn0
    omega
  have hu : cmpU [] n0 = -1 := by
    unfold cmpU cmpN
    simp [hlen]
  show cmpP (vp a) (vp b) = -1
  unfold cmpP
  rw [hva, hvb, h2]
  rw [show zp.n = [[], [], []] from rfl, cmp3_eq, hu]
  rfl
theorem cmpV_nn {a b : List UInt8} (ha : ver a = none) (hb : ver b = none) : cmpV a b = 0 := by
  have h1 : vp a = zp := by unfold vp; rw [ha]; rfl
  have h2 : vp b = zp := by unfold vp; rw [hb]; rfl
  show cmpP (vp a) (vp b) = 0
  rw [h1, h2]
  decide
end Go.Proofs.YtnciglpdjpckiaaGreatDoor
