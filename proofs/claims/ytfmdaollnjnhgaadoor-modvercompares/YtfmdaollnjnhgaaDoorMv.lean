import Derived.Test.YtfmdaollnjnhgaaDoorMu
namespace Go.Proofs.YtfmdaollnjnhgaaDoor
open Go.RowKit Go.Shelf TextNum ModNum
set_option maxRecDepth 100000 in
theorem Or_walk (x y : Int) (b : Nat) (w : World) (h0 : w.cell? ⟨b, 0, none⟩ = some (.int .i64 x)) (h1 : w.cell? ⟨b, 1, none⟩ = some (.int .i64 y)) : Calls Tryd.prog 89 #[.slice (some ⟨b, 0, none⟩) 2 2] w fun e w' => e = .returned (.int .i64 (if x = 0 then y else x)) ∧ w' = w := by
  go_enter Tryd.func89, Tryd.ntmps89
  go_wp2
  go_loopw [5, 8] (fun _ v8 wr => ∃ i : Nat, v8 = .int .i64 (i : Int) ∧ i ≤ 2 ∧ wr = w ∧ Hid ((0 < i → x = 0) ∧ (1 < i → y = 0))) (fun _ v8 _ => 2 - (intOf v8).toNat)
  case atStart => exact ⟨0, rfl, by omega, rfl, by omega, by omega⟩
  case round =>
    obtain ⟨i, rfl, hi, hwr, hI⟩ := hrel
    obtain rfl : w = wr := hwr.symm
    clear hwr
    obtain rfl | rfl | rfl : i = 0 ∨ i = 1 ∨ i = 2 := by omega
    · by_cases hx : x = 0
      · subst hx
        go_wp2
        go_roundw
        case rel => exact ⟨1, by go_num, by omega, by simp, by simp, by omega⟩
        case measure => simp [intOf]
      · have hxz : (x != 0) = true := by rw [bne_iff_ne]; exact hx
        have HX := Hid.of hx
        clear hx
        go_wp2
        go_ret
        first | exact ⟨rfl, rfl⟩ | exact ⟨rfl, trivial⟩
    · have hx := hI.out.1 (by omega)
      subst hx
      by_cases hy : y = 0
      · subst hy
        go_wp2
        go_roundw
        case rel => exact ⟨2, by go_num, by omega, by simp, by simp, by simp⟩
        case measure => simp [intOf]
      · have hyz : (y != 0) = true := by rw [bne_iff_ne]; exact hy
        have HX := Hid.of hy
        clear hy
        go_wp2
        go_ret
        first | exact ⟨rfl, rfl⟩ | exact ⟨rfl, trivial⟩ | (rw [if_pos rfl]; exact ⟨rfl, rfl⟩)
    · have hx := hI.out.1 (by omega)
      have hy := hI.out.2 (by omega)
      subst hx hy
      go_wp2
      go_ret
      first | exact ⟨rfl, rfl⟩ | exact ⟨rfl, trivial⟩
set_option maxRecDepth 100000 in
theorem compareNumbers_walk (a b : ByteArray) (w : World) : Calls Tryd.prog 54 #[.string a, .string b] w fun e w' => e = .returned (.int .i64 (cmpU a.data.toList b.data.toList)) ∧ Up w w' := by
  have H1 := fun w' => Hid.of (orderI_walk a.size b.size w')
  have H2 := fun w' => Hid.of (orderS_walk a b w')
  have HR : Hid (cmpU a.data.toList b.data.toList = if cmpN a.size b.size = 0 then cmpB a.data.toList b.data.toList else cmpN a.size b.size) := by unfold cmpU; rw [len_of, len_of]; rfl
  generalize cmpN a.size b.size = x at *
  generalize cmpB a.data.toList b.data.toList = y at *
  have H3 := Hid.of (Or_walk x y w.heap.size (w.alloc (.cells #[.int .i64 x, .int .i64 y] 3)) (by rw [World.cell?_alloc_at _ _ _ _ rfl]; rfl) (by rw [World.cell?_alloc_at _ _ _ _ rfl]; rfl))
  generalize (if x = 0 then y else x) = r at *
  go_enter Tryd.func54, Tryd.ntmps54
  go_wp2_with fail
  refine ((H1 _).out).mono ?_
  rintro e w9 ⟨rfl, h9⟩
  obtain rfl := h9.symm
  clear h9
  dsimp only
  go_wp2_with fail
  refine ((H2 _).out).mono ?_
  rintro e w9 ⟨rfl, h9⟩
  obtain rfl := h9.symm
  clear h9
  dsimp only
  go_wp2_with fail
  refine H3.out.mono ?_
  rintro e w9 ⟨rfl, h9⟩
  have HU : Hid (Up w w9) := by rw [h9]; exact (Up.refl w).alloc _
  clear h9
  dsimp only
  go_wp2
  go_ret
  rw [HR.out]
  exact ⟨rfl, HU.out⟩
set_option maxRecDepth 100000 in
theorem compareWords_walk (a b : ByteArray) (w : World) (hG : GM w) : Calls Tryd.prog 57 #[.string a, .string b] w fun e w' => e = .returned (.int .i64 (cmpW a.data.toList b.data.toList)) ∧ Up w w' := by
  have HA := Hid.of (isNumber_walk a w hG)
  have HB := fun w' => fun (u : Up w w') => Hid.of (isNumber_walk b w' (hG.up u))
  have HU := fun w' => Hid.of (compareNumbers_walk a b w')
  have HS := fun w' => Hid.of (orderS_walk a b w')
  have HR : Hid (cmpW a.data.toList b.data.toList = if isNum a.data.toList then (if isNum b.data.toList then cmpU a.data.toList b.data.toList else -1) else if isNum b.data.toList then 1 else cmpB a.data.toList b.data.toList) := rfl
  clear hG
  generalize cmpU a.data.toList b.data.toList = x at *
  generalize cmpB a.data.toList b.data.toList = y at *
  generalize isNum a.data.toList = na at *
  generalize isNum b.data.toList = nb at *
  cases na with
  | true =>
    cases nb with
    | true =>
      go_enter Tryd.func57, Tryd.ntmps57
      go_wp2_with fail
      refine (HA.out).mono ?_
      rintro e w1 ⟨rfl, u1⟩
      have H1 := Hid.of (u1)
      have Hu1 := Hid.of u1
      clear u1
      dsimp only
      go_wp2_with fail
      refine ((HB _ H1.out).out).mono ?_
      rintro e w2 ⟨rfl, u2⟩
      have H2 := Hid.of (H1.out.trans u2)
      have Hu2 := Hid.of u2
      clear u2
      dsimp only
      go_wp2_with fail
      refine ((HU _).out).mono ?_
      rintro e w3 ⟨rfl, u3⟩
      have H3 := Hid.of (H2.out.trans u3)
      have Hu3 := Hid.of u3
      clear u3
      dsimp only
      go_wp2
      go_ret
      rw [HR.out]
      exact ⟨rfl, H3.out⟩
    | false =>
      go_enter Tryd.func57, Tryd.ntmps57
      go_wp2_with fail
      refine (HA.out).mono ?_
      rintro e w1 ⟨rfl, u1⟩
      have H1 := Hid.of (u1)
      have Hu1 := Hid.of u1
      clear u1
      dsimp only
      go_wp2_with fail
      refine ((HB _ H1.out).out).mono ?_
      rintro e w2 ⟨rfl, u2⟩
      have H2 := Hid.of (H1.out.trans u2)
      have Hu2 := Hid.of u2
      clear u2
      dsimp only
      go_wp2
      go_ret
      rw [HR.out]
      exact ⟨rfl, H2.out⟩
  | false =>
    cases nb with
    | true =>
      go_enter Tryd.func57, Tryd.ntmps57
      go_wp2_with fail
      refine (HA.out).mono ?_
      rintro e w1 ⟨rfl, u1⟩
      have H1 := Hid.of (u1)
      have Hu1 := Hid.of u1
      clear u1
      dsimp only
      go_wp2_with fail
      refine ((HB _ H1.out).out).mono ?_
      rintro e w2 ⟨rfl, u2⟩
      have H2 := Hid.of (H1.out.trans u2)
      have Hu2 := Hid.of u2
      clear u2
      dsimp only
      go_wp2
      go_ret
      rw [HR.out]
      exact ⟨rfl, H2.out⟩
    | false =>
      go_enter Tryd.func57, Tryd.ntmps57
      go_wp2_with fail
      refine (HA.out).mono ?_
      rintro e w1 ⟨rfl, u1⟩
      have H1 := Hid.of (u1)
      have Hu1 := Hid.of u1
      clear u1
      dsimp only
      go_wp2_with fail
      refine ((HB _ H1.out).out).mono ?_
      rintro e w2 ⟨rfl, u2⟩
      have H2 := Hid.of (H1.out.trans u2)
      have Hu2 := Hid.of u2
      clear u2
      dsimp only
      go_wp2_with fail
      refine ((HS _).out).mono ?_
      rintro e w9 ⟨rfl, h9⟩
      obtain rfl := h9.symm
      clear h9
      dsimp only
      go_wp2
      go_ret
      rw [HR.out]
      exact ⟨rfl, H2.out⟩
set_option maxRecDepth 100000 in
set_option maxHeartbeats 1000000 in
theorem CompareFunc_walk (v1 v2 : Value) (xs ys : List (List UInt8)) (w : World) (hG : GM w) (h1 : SlS w v1 xs) (h2 : SlS w v2 ys) (hl1 : xs.length ≤ 1048576) (_hl2 : ys.length ≤ 1048576) :
    Calls Tryd.prog 56 #[v1, v2, .func (.func 57) #[] #[]] w fun e w' => e = .returned (.int .i64 (cmpL cmpW xs ys)) ∧ Up w w' := by
  have HG := Hid.of hG
  have HS1 := Hid.of h1
  have HS2 := Hid.of h2
  obtain ⟨a1, c1, rfl⟩ := h1.len
  obtain ⟨a2, c2, rfl⟩ := h2.len
  clear hG h1 h2
  go_enter Tryd.func56, Tryd.ntmps56
  go_wp2
  go_loopw [7, 8, 9, 10, 13] (fun _ _ _ _ v13 wr => ∃ i : Nat, v13 = .int .i64 (i : Int) ∧ i ≤ xs.length ∧ Hid (i ≤ ys.length ∧ cmpL cmpW xs ys = cmpL cmpW (xs.drop i) (ys.drop i) ∧ Up w wr)) (fun _ _ _ _ v13 _ => xs.length - (intOf v13).toNat)
  case atStart => exact ⟨0, rfl, by omega, Nat.zero_le _, rfl, Up.refl _⟩
  case round =>
    obtain ⟨i, rfl, hi, hI⟩ := hrel
    by_cases hlt : i < xs.length
    · have hltz : (i : Int) < (xs.length : Int) := by omega
      obtain ⟨b1, o1, rfl, hc1⟩ := (HS1.out.up hI.out.2.2).get hlt
      by_cases hlt2 : i < ys.length
      · have hlt2z : ¬ (ys.length : Int) ≤ (i : Int) := by omega
        have hlt2y : (i : Int) < (ys.length : Int) := by omega
        obtain ⟨b2, o2, rfl, hc2⟩ := (HS2.out.up hI.out.2.2).get hlt2
        have HW := Hid.of (compareWords_walk ⟨xs[i].toArray⟩ ⟨ys[i].toArray⟩ wr (HG.out.up hI.out.2.2))
        rw [ba_data, ba_data] at HW
        have HE := Hid.of (show cmpL cmpW xs ys = if cmpW xs[i] ys[i] = 0 then cmpL cmpW (xs.drop (i + 1)) (ys.drop (i + 1)) else cmpW xs[i] ys[i] by
          rw [hI.out.2.1, List.drop_eq_getElem_cons hlt, List.drop_eq_getElem_cons hlt2]; rfl)
        generalize xs[i] = x at *
        generalize ys[i] = y at *
        by_cases hz : cmpW x y = 0
        · rw [hz] at HW
          have HE2 := Hid.of (HE.out.trans (if_pos hz))
          clear hz
          go_wp2_with fail
          refine (HW.out).mono ?_
          rintro e w1 ⟨rfl, u1⟩
          have H1 := Hid.of (hI.out.2.2.trans u1)
          have Hu1 := Hid.of u1
          clear u1
          dsimp only
          go_wp2
          go_roundw
          case rel => exact ⟨i + 1, by go_num, by omega, hlt2, HE2.out, H1.out⟩
          case measure => simp [intOf]; omega
        · have HE2 := Hid.of (HE.out.trans (if_neg hz))
          have hzz : (cmpW x y != 0) = true := by rw [bne_iff_ne]; exact hz
          generalize cmpW x y = cw at *
          clear hz
          go_wp2_with fail
          refine (HW.out).mono ?_
          rintro e w1 ⟨rfl, u1⟩
          have H1 := Hid.of (hI.out.2.2.trans u1)
          have Hu1 := Hid.of u1
          clear u1
          dsimp only
          go_wp2
          go_ret
          rw [HE2.out]
          exact ⟨rfl, H1.out⟩
      · have hlt2z : (ys.length : Int) ≤ (i : Int) := by omega
        have HE := Hid.of (show cmpL cmpW xs ys = 1 by
          rw [hI.out.2.1, List.drop_eq_getElem_cons hlt, List.drop_eq_nil_of_le (show ys.length ≤ i by omega)]; rfl)
        go_wp2
        go_ret
        rw [HE.out]
        exact ⟨rfl, hI.out.2.2⟩
    · have hltz : ¬ (i : Int) < (xs.length : Int) := by omega
      have hia : i = xs.length := by omega
      by_cases hl : xs.length < ys.length
      · have hlz : (xs.length : Int) < (ys.length : Int) := by omega
        have HE := Hid.of (show cmpL cmpW xs ys = -1 by
          rw [hI.out.2.1, List.drop_eq_nil_of_le (show xs.length ≤ i by omega), List.drop_eq_getElem_cons (show i < ys.length by omega)]; rfl)
        clear hia
        go_wp2
        go_ret
        rw [HE.out]
        exact ⟨rfl, hI.out.2.2⟩
      · have hlz : ¬ (xs.length : Int) < (ys.length : Int) := by omega
        have HE := Hid.of (show cmpL cmpW xs ys = 0 by
          rw [hI.out.2.1, List.drop_eq_nil_of_le (show xs.length ≤ i by omega), List.drop_eq_nil_of_le (show ys.length ≤ i by omega)]; rfl)
        clear hia
        go_wp2
        go_ret
        rw [HE.out]
        exact ⟨rfl, hI.out.2.2⟩
end Go.Proofs.YtfmdaollnjnhgaaDoor
