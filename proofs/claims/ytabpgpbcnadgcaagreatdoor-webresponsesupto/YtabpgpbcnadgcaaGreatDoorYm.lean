import Derived.Test.YtabpgpbcnadgcaaGreatDoorXl
namespace Go.Proofs.YtabpgpbcnadgcaaGreatDoor
open Go.RowKit TextNum
/-- without case -/
def lws (l : List UInt8) : List UInt8 := l.map lw
theorem lws_len (l : List UInt8) : (lws l).length = l.length := by simp [lws]
theorem lws_take {l : List UInt8} {i : Nat} (h : i < l.length) : lws (l.take (i + 1)) = lws (l.take i) ++ [lw l[i]] := by
  unfold lws
  rw [List.take_succ_eq_append_getElem h, List.map_append]
  rfl
set_option maxRecDepth 100000 in
set_option maxHeartbeats 1000000 in
theorem sameWord_walk (a b : ByteArray) (w : World) (hsz : a.size ≤ 4611686018427387904) : Calls Tryz.prog 110 #[.string a, .string b] w fun e w' => e = .returned (.bool (lws a.data.toList == lws b.data.toList)) ∧ Up w w' := by
  have ha : a.size = a.data.toList.length := Go.Lib.size_eq a
  have hb : b.size = b.data.toList.length := Go.Lib.size_eq b
  have HA := Hid.of ha
  have HB := Hid.of hb
  by_cases hl : a.size = b.size
  · have hle : ((a.size : Int) == (b.size : Int)) = true := by rw [beq_iff_eq]; omega
    have hne : ((a.size : Int) != (b.size : Int)) = false := by rw [bne, hle]; rfl
    have HL := Hid.of hl
    clear ha hb hl
    obtain ⟨r, hr⟩ : ∃ r, (lws a.data.toList == lws b.data.toList) = r := ⟨_, rfl⟩
    have HR := Hid.of hr
    rw [hr]
    clear hr
    go_enter Tryz.func110, Tryz.ntmps110
    go_wp2
    go_loopw [13] (fun v13 wr => ∃ i : Nat, v13 = .int .i64 (i : Int) ∧ i ≤ a.size ∧ Hid (Up w wr ∧ lws (a.data.toList.take i) = lws (b.data.toList.take i))) (fun v13 _ => a.size - (intOf v13).toNat)
    case atStart => exact ⟨0, rfl, Nat.zero_le _, Hid.of ⟨Up.refl _, rfl⟩⟩
    case round =>
      obtain ⟨i, rfl, hi, hU⟩ := hrel
      have HU := Hid.of hU.out
      clear hU
      by_cases hil : i < a.size
      · have hilz : (i : Int) < (a.size : Int) := by omega
        have hib : i < b.size := by have := HL.out; omega
        have hibz : (i : Int) < (b.size : Int) := by omega
        have hga := sget' a i hil
        have hgb := sget' b i hib
        have HTa := Hid.of (lws_take (l := a.data.toList) (i := i) (by rw [← HA.out]; exact hil))
        have HTb := Hid.of (lws_take (l := b.data.toList) (i := i) (by rw [← HB.out]; exact hib))
        generalize a.data.toList[i]'(by rw [← HA.out]; exact hil) = x at *
        generalize b.data.toList[i]'(by rw [← HB.out]; exact hib) = y at *
        go_wp2
        have hxe : (((lw x).toNat : Int) == ((lw y).toNat : Int)) = (lw x == lw y) := u8_eq
        apply wp_once
        case h =>
          go_region_with (first | (go_at_call 139; refine (lower_walk _ _).mono ?_; rintro e w3 ⟨rfl, h3⟩; obtain rfl := h3.symm; clear h3; dsimp only))
          all_goals exact ⟨rfl, rfl⟩
        by_cases hxy : lw x = lw y
        · have hz : (((lw x).toNat : Int) == ((lw y).toNat : Int)) = true := by rw [hxe, beq_iff_eq]; exact hxy
          have HXY := Hid.of hxy
          clear hxy hxe
          simp only [Act.put, List.setIfInBounds_toArray]
          go_wp2
          go_roundw
          all_goals first
            | exact ⟨i + 1, by go_num, by omega, Hid.of ⟨HU.out.1.drew, by rw [HTa.out, HTb.out, HU.out.2, HXY.out]⟩⟩
            | (simp [intOf]; omega)
        · have hz : (((lw x).toNat : Int) == ((lw y).toNat : Int)) = false := by rw [hxe, beq_eq_false_iff_ne]; exact hxy
          have HF := Hid.of (show r = false by
            rw [← HR.out, beq_eq_false_iff_ne]
            intro e
            have e1 := congrArg (fun l => l.take (i + 1)) e
            unfold lws at e1 HTa HTb
            simp only [← List.map_take] at e1
            have e2 := HTa.out
            have e3 := HTb.out
            rw [e2, e3] at e1
            have e4 := List.append_inj_right' e1 rfl
            exact hxy (by simpa using e4))
          clear hxy hxe
          simp only [Act.put, List.setIfInBounds_toArray]
          go_wp2
          go_ret
          rw [HF.out]
          exact ⟨rfl, HU.out.1.drew⟩
      · have hilz : ¬ (i : Int) < (a.size : Int) := by omega
        have HT := Hid.of (show r = true by
          rw [← HR.out, beq_iff_eq]
          have h1 := HU.out.2
          rw [List.take_of_length_le (by rw [← HA.out]; omega), List.take_of_length_le (by rw [← HB.out]; have := HL.out; omega)] at h1
          exact h1)
        go_wp2
        go_ret
        rw [HT.out]
        exact ⟨rfl, HU.out.1⟩
  · have hle : ((a.size : Int) == (b.size : Int)) = false := by rw [beq_eq_false_iff_ne]; omega
    have HF := Hid.of (show (lws a.data.toList == lws b.data.toList) = false by
      rw [beq_eq_false_iff_ne]
      intro e
      have := congrArg List.length e
      rw [lws_len, lws_len] at this
      omega)
    rw [HF.out]
    clear ha hb hl
    go_enter Tryz.func110, Tryz.ntmps110
    go_wp2
    go_ret
    exact ⟨rfl, Up.refl _⟩
end Go.Proofs.YtabpgpbcnadgcaaGreatDoor
