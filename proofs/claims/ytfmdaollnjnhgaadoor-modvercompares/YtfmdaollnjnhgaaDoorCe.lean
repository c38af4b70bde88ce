import Derived.Test.YtfmdaollnjnhgaaDoorCd
import Derived.Deep.RegionWith
namespace Go.Proofs.YtfmdaollnjnhgaaDoor
open Go.RowKit Go.Shelf TextNum ModNum
set_option maxRecDepth 100000 in
set_option maxHeartbeats 2000000 in
theorem releases_walk (v1 v2 : Value) (xs ys : List (List UInt8)) (w : World) (h1 : SlS w v1 xs) (h2 : SlS w v2 ys) (hl1 : xs.length ≤ 1048576) (hl2 : ys.length ≤ 1048576)
    (hw1 : ∀ x ∈ xs, isWrd x = true ∧ x.length ≤ 1048576) (hw2 : ∀ x ∈ ys, isWrd x = true ∧ x.length ≤ 1048576) :
    Calls Tryd.prog 47 #[v1, v2] w fun e w' => e = .returned (.int .i64 (cmpWs xs ys)) ∧ Up w w' := by
  have HS1 := Hid.of h1
  have HS2 := Hid.of h2
  have HW1 := Hid.of hw1
  have HW2 := Hid.of hw2
  obtain ⟨a1, c1, rfl⟩ := h1.len
  obtain ⟨a2, c2, rfl⟩ := h2.len
  clear h1 h2 hw1 hw2
  by_cases hx0 : xs = []
  · subst hx0
    rcases Nat.eq_zero_or_pos ys.length with hy | hy
    · have HR := Hid.of (show cmpWs [] ys = 0 by rw [List.length_eq_zero_iff.1 hy]; rfl)
      have hyz : (ys.length : Int) = 0 := by omega
      go_enter Tryd.func47, Tryd.ntmps47
      go_wp2
      go_ret
      rw [HR.out]
      exact ⟨rfl, Up.refl _⟩
    · have HR := Hid.of (show cmpWs [] ys = 1 by
        unfold cmpWs
        rw [if_pos (.inl rfl)]
        simp only [cmpN, List.length_nil]
        rw [if_neg (by omega), if_pos hy])
      have hyz : (0 : Int) < (ys.length : Int) := by omega
      go_enter Tryd.func47, Tryd.ntmps47
      go_wp2
      go_ret
      rw [HR.out]
      exact ⟨rfl, Up.refl _⟩
  · have hx1 : 0 < xs.length := List.length_pos_iff.2 hx0
    have hx1z : (0 : Int) < (xs.length : Int) := by omega
    have hx1b : ((xs.length : Int) == 0) = false := by rw [beq_eq_false_iff_ne]; omega
    by_cases hy0 : ys = []
    · have HR := Hid.of (show cmpWs xs ys = -1 by
        unfold cmpWs
        rw [if_pos (.inr hy0)]
        simp only [cmpN, hy0, List.length_nil]
        rw [if_pos hx1])
      have hyz : (ys.length : Int) = 0 := by rw [hy0]; rfl
      clear hy0 hx0
      go_enter Tryd.func47, Tryd.ntmps47
      go_wp2
      go_ret
      rw [HR.out]
      exact ⟨rfl, Up.refl _⟩
    · have hy1 : 0 < ys.length := List.length_pos_iff.2 hy0
      have hy1b : ((ys.length : Int) == 0) = false := by rw [beq_eq_false_iff_ne]; omega
      have HR := Hid.of (show cmpWs xs ys = cmpL cmpW xs ys by
        unfold cmpWs
        rw [if_neg (by rintro (h | h); exact hx0 h; exact hy0 h)])
      clear hx0 hy0
      go_enter Tryd.func47, Tryd.ntmps47
      go_wp2
      go_loopw [5, 6] (fun v5 _ wr => ∃ i : Nat, v5 = .int .i64 (i : Int) ∧ i ≤ xs.length ∧ Hid (i ≤ ys.length ∧ cmpL cmpW xs ys = cmpL cmpW (xs.drop i) (ys.drop i) ∧ Up w wr)) (fun v5 _ _ => xs.length - (intOf v5).toNat)
      case atStart => exact ⟨0, rfl, by omega, Nat.zero_le _, rfl, Up.refl _⟩
      case round =>
        obtain ⟨i, rfl, hi, hI⟩ := hrel
        by_cases hlt : i < xs.length
        · have hltz : (i : Int) < (xs.length : Int) := by omega
          obtain ⟨b1, o1, rfl, hc1⟩ := (HS1.out.up hI.out.2.2).get hlt
          by_cases hlt2 : i < ys.length
          · have hlt2y : (i : Int) < (ys.length : Int) := by omega
            obtain ⟨b2, o2, rfl, hc2⟩ := (HS2.out.up hI.out.2.2).get hlt2
            have HW := fun w' => Hid.of (words_walk ⟨xs[i].toArray⟩ ⟨ys[i].toArray⟩ (by rw [size_str]; exact (HW1.out _ (List.getElem_mem hlt)).2) (by rw [size_str]; exact (HW2.out _ (List.getElem_mem hlt2)).2) (HW1.out _ (List.getElem_mem hlt)).1 (HW2.out _ (List.getElem_mem hlt2)).1 w')
            have HE := Hid.of (show cmpL cmpW xs ys = if cmpW xs[i] ys[i] = 0 then cmpL cmpW (xs.drop (i + 1)) (ys.drop (i + 1)) else cmpW xs[i] ys[i] by
              rw [hI.out.2.1, List.drop_eq_getElem_cons hlt, List.drop_eq_getElem_cons hlt2]; rfl)
            simp only at HW
            generalize xs[i] = x at *
            generalize ys[i] = y at *
            by_cases hz : cmpW x y = 0
            · rw [hz] at HW
              have HE2 := Hid.of (HE.out.trans (if_pos hz))
              clear hz
              go_wp2
              go_region_with (go_at_call 78; refine (HW _).out.mono ?_; rintro e w1 ⟨rfl, u1⟩; have H1 := Hid.of (Up.trans (by first | exact hI.out.2.2.drew | exact hI.out.2.2) u1); clear u1)
              all_goals go_wp2
              all_goals go_roundw
              all_goals first | exact ⟨i + 1, by go_num, by omega, hlt2, HE2.out, H1.out⟩ | (simp [intOf]; omega)
            · have HE2 := Hid.of (HE.out.trans (if_neg hz))
              have hzz : (cmpW x y != 0) = true := by rw [bne_iff_ne]; exact hz
              generalize cmpW x y = cw at *
              clear hz
              go_wp2
              go_region_with (go_at_call 78; refine (HW _).out.mono ?_; rintro e w1 ⟨rfl, u1⟩; have H1 := Hid.of (Up.trans (by first | exact hI.out.2.2.drew | exact hI.out.2.2) u1); clear u1)
              all_goals go_wp2
              all_goals go_ret
              all_goals rw [HR.out, HE2.out]
              all_goals exact ⟨rfl, H1.out⟩
          · have hlt2z : ¬ (i : Int) < (ys.length : Int) := by omega
            have h3 : ¬ (xs.length : Int) < (ys.length : Int) := by omega
            have h4 : (ys.length : Int) < (xs.length : Int) := by have := hI.out.1; omega
            have HE := Hid.of (show cmpL cmpW xs ys = 1 by
              rw [hI.out.2.1, List.drop_eq_getElem_cons hlt, List.drop_eq_nil_of_le (show ys.length ≤ i by omega)]; rfl)
            go_wp2
            go_ret
            rw [HR.out, HE.out]
            exact ⟨rfl, hI.out.2.2⟩
        · have hltz : ¬ (i : Int) < (xs.length : Int) := by omega
          by_cases hl : xs.length < ys.length
          · have hlz : (xs.length : Int) < (ys.length : Int) := by omega
            have HE := Hid.of (show cmpL cmpW xs ys = -1 by
              rw [hI.out.2.1, List.drop_eq_nil_of_le (show xs.length ≤ i by omega), List.drop_eq_getElem_cons (show i < ys.length by omega)]; rfl)
            go_wp2
            go_ret
            rw [HR.out, HE.out]
            exact ⟨rfl, hI.out.2.2⟩
          · have hlz : ¬ (xs.length : Int) < (ys.length : Int) := by omega
            have h4 : ¬ (ys.length : Int) < (xs.length : Int) := by have := hI.out.1; omega
            have HE := Hid.of (show cmpL cmpW xs ys = 0 by
              rw [hI.out.2.1, List.drop_eq_nil_of_le (show xs.length ≤ i by omega), List.drop_eq_nil_of_le (show ys.length ≤ i by omega)]; rfl)
            go_wp2
            go_ret
            rw [HR.out, HE.out]
            exact ⟨rfl, hI.out.2.2⟩
end Go.Proofs.YtfmdaollnjnhgaaDoor
