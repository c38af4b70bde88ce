import Derived.Test.YtkaoalcffgnfeaaGreatDoorXl
namespace Go.Proofs.YtkaoalcffgnfeaaGreatDoor
open Go.RowKit TextNum
def lws (l : List UInt8) : List UInt8 := l.map lw
theorem lws_len (l : List UInt8) : (lws l).length = l.length := by simp [lws]
theorem lws_take {l : List UInt8} {i : Nat} (h : i < l.length) : lws (l.take (i + 1)) = lws (l.take i) ++ [lw l[i]] := by
 unfold lws
 rw [List.take_succ_eq_append_getElem h, List.map_append]
 rfl
set_option maxRecDepth 100000 in
set_option maxHeartbeats 1000000 in
theorem sameWord_walk (a b : ByteArray) (w : World) (hsz : a.size ≤ 4611686018427387904) : Calls Tryz.prog 111 #[.string a, .string b] w fun e w' => e = .returned (.bool (lws a.data.toList == lws b.data.toList)) ∧ Up w w' := by
 have ha : a.size = a.data.toList.length := Go.Lib.size_eq a
 have hb : b.size = b.data.toList.length := Go.Lib.size_eq b
 have HA := Ho ha
 have HB := Ho hb
 by_cases hl : a.size = b.size
 · have hle : ((a.size : Int) == (b.size : Int)) = true := by rw [beq_iff_eq]; omega
   have hne : ((a.size : Int) != (b.size : Int)) = false := by rw [bne, hle]; rfl
   have HL := Ho hl
   clear ha hb hl
   obtain ⟨r, hr⟩ := ny (lws a.data.toList == lws b.data.toList)
   have HR := Ho hr
   rw [hr]
   clear hr
   go_enter Tryz.func111, Tryz.ntmps111
   go_wp2
   go_loopw [13] (fun v13 wr => ∃ i : Nat, v13 = .int .i64 (i : Int) ∧ i ≤ a.size ∧ Hd (Up w wr ∧ lws (a.data.toList.take i) = lws (b.data.toList.take i))) (fun v13 _ => a.size - (intOf v13).toNat)
   case atStart => exact ⟨0, rfl, Nat.zero_le _, Ho ⟨Up.refl _, rfl⟩⟩
   case round =>
    obtain ⟨i, rfl, hi, hU⟩ := hrel
    have HU := Ho hU.o
    clear hU
    by_cases hil : i < a.size
    · have hilz : (i : Int) < (a.size : Int) := by omega
      have hib : i < b.size := by have := HL.o; omega
      have hibz : (i : Int) < (b.size : Int) := by omega
      have hga := sget' a i hil
      have hgb := sget' b i hib
      have HTa := Ho (lws_take (l := a.data.toList) (i := i) (by rw [← HA.o]; exact hil))
      have HTb := Ho (lws_take (l := b.data.toList) (i := i) (by rw [← HB.o]; exact hib))
      generalize a.data.toList[i]'(by rw [← HA.o]; exact hil) = x at *
      generalize b.data.toList[i]'(by rw [← HB.o]; exact hib) = y at *
      go_wp2
      have hxe : (((lw x).toNat : Int) == ((lw y).toNat : Int)) = (lw x == lw y) := u8_eq
      apply wp_once
      case h =>
       go_region_with (first | (go_at_call 139; refine (lower_walk _ _).mono ?_; rintro e w3 ⟨rfl, h3⟩; obtain rfl := h3.symm; clear h3; dsimp only))
       all_goals exact ⟨rfl, rfl⟩
      by_cases hxy : lw x = lw y
      · have hz : (((lw x).toNat : Int) == ((lw y).toNat : Int)) = true := by rw [hxe, beq_iff_eq]; exact hxy
        have HXY := Ho hxy
        clear hxy hxe
        simp only [Act.put, List.setIfInBounds_toArray]
        go_wp2
        go_roundw
        all_goals first
         | exact ⟨i + 1, by go_num, by omega, Ho ⟨HU.o.1.drew, by rw [HTa.o, HTb.o, HU.o.2, HXY.o]⟩⟩
         | (simp [intOf]; omega)
      · have hz : (((lw x).toNat : Int) == ((lw y).toNat : Int)) = false := by rw [hxe, beq_eq_false_iff_ne]; exact hxy
        have HF := Ho (show r = false by
         rw [← HR.o, beq_eq_false_iff_ne]
         intro e
         have e1 := congrArg (fun l => l.take (i + 1)) e
         unfold lws at e1 HTa HTb
         simp only [← List.map_take] at e1
         have e2 := HTa.o
         have e3 := HTb.o
         rw [e2, e3] at e1
         have e4 := List.append_inj_right' e1 rfl
         exact hxy (by simpa using e4))
        clear hxy hxe
        simp only [Act.put, List.setIfInBounds_toArray]
        go_wp2
        go_ret
        rw [HF.o]
        exact ⟨rfl, HU.o.1.drew⟩
    · have hilz : ¬ (i : Int) < (a.size : Int) := by omega
      have HT := Ho (show r = true by
       rw [← HR.o, beq_iff_eq]
       have h1 := HU.o.2
       rw [List.take_of_length_le (by rw [← HA.o]; omega), List.take_of_length_le (by rw [← HB.o]; have := HL.o; omega)] at h1
       exact h1)
      go_wp2
      go_ret
      rw [HT.o]
      exact ⟨rfl, HU.o.1⟩
 · have hle : ((a.size : Int) == (b.size : Int)) = false := by rw [beq_eq_false_iff_ne]; omega
   have HF := Ho (show (lws a.data.toList == lws b.data.toList) = false by
    rw [beq_eq_false_iff_ne]
    intro e
    have := congrArg List.length e
    rw [lws_len, lws_len] at this
    omega)
   rw [HF.o]
   clear ha hb hl
   go_enter Tryz.func111, Tryz.ntmps111
   go_wp2
   go_ret
   exact ⟨rfl, Up.refl _⟩
end Go.Proofs.YtkaoalcffgnfeaaGreatDoor
