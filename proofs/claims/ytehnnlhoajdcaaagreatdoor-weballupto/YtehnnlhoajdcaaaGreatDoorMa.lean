import Derived.Test.YtehnnlhoajdcaaaGreatDoorXl
namespace Go.Proofs.YtehnnlhoajdcaaaGreatDoor
open Go.RowKit TextNum
def lws (l : List UInt8) : List UInt8 := l.map lw
theorem lws_len (l : List UInt8) : (lws l).length = l.length := by simp [lws]
theorem lws_take {l : List UInt8} {i : Nat} (h : i < l.length) : lws (l.take (i + 1)) = lws (l.take i) ++ [lw l[i]] := by
 unfold lws
 rw [List.take_succ_eq_append_getElem h, List.map_append]
 rfl
set_option maxRecDepth 100000 in
set_option maxHeartbeats 1000000 in
theorem sameWord_walk (a b : ByteArray) (w : World) (hsz : a.size ≤ 4611686018427387904) : Calls Tryz.prog 110 #[.string a, .string b] w fun e w' => e = .returned (.bool (lws a.data.toList == lws b.data.toList)) ∧ Up w w' := by
 have ha : a.size = a.data.toList.length := Go.Lib.size_eq a
 have hb : b.size = b.data.toList.length := Go.Lib.size_eq b
 have HA := Ho ha
 have HB := Ho hb
 by_cases hl : a.size = b.size
 · have hle : ((a.size : Int) == (b.size : Int)) = true := by rw [beq_iff_eq]; omega
   have hne : ((a.size : Int) != (b.size : Int)) = false := by rw [bne, hle]; rfl
   have HL := Ho hl
   clear ha hb hl
   obtain ⟨r, hr⟩ := ny (lws a.data.toList == lws b.data.toList)
   have HR := Ho hr
   rw [hr]
   clear hr
   go_enter Tryz.func110, Tryz.ntmps110
   go_wp2
   go_loopw [13] (fun v13 wr => ∃ i : Nat, v13 = .int .i64 (i : Int) ∧ i ≤ a.size ∧ Hd (Up w wr ∧ lws (a.data.toList.take i) = lws (b.data.toList.take i))) (fun v13 _ => a.size - (intOf v13).toNat)
   case atStart => exact ⟨0, rfl, Nat.zero_le _, Ho ⟨Up.refl _, rfl⟩⟩
   case round =>
    obtain ⟨i, rfl, hi, hU⟩ := hrel
    have HU := Ho hU.o
    clear hU
    by_cases hil : i < a.size
    · have hilz : (i : Int) < (a.size : Int) := by omega
      have hib : i < b.size := by have := HL.o; omega
      have hibz : (i : Int) < (b.size : Int) := by omega
      have hga := sget' a i hil
      have hgb := sget' b i hib
      have HTa := Ho (lws_take (l := a.data.toList) (i := i) (by rw [← HA.o]; exact hil))
      have HTb := Ho (lws_take (l := b.data.toList) (i := i) (by rw [← HB.o]; exact hib))
      generalize a.data.toList[i]'(by rw [← HA.o]; exact hil) = x at *
      generalize b.data.toList[i]'(by rw [← HB.o]; exact hib) = y at *
      go_wp2
      have hxe : (((lw x).toNat : Int) == ((lw y).toNat : Int)) = (lw x == lw y) := u8_eq
      apply wp_once
      case h =>
       go_region_with (first | (go_at_call 139; refine (lower_walk _ _).mono ?_; rintro e w3 ⟨rfl, h3⟩; obtain rfl := h3.symm; clear h3; dsimp only))
       all_goals exact ⟨rfl, rfl⟩
      by_cases hxy : lw x = lw y
      · have hz : (((lw x).toNat : Int) == ((lw y).toNat : Int)) = true := by rw [hxe, beq_iff_eq]; exact hxy
        have HXY := Ho hxy
        clear hxy hxe
        simp only [Act.put, List.setIfInBounds_toArray]
        go_wp2
        go_roundw
        all_goals first
         | exact ⟨i + 1, by go_num, by omega, Ho ⟨HU.o.1.drew, by rw [HTa.o, HTb.o, HU.o.2, HXY.o]⟩⟩
         | (simp [intOf]; omega)
      have hz : (((lw x).toNat : Int) == ((lw y).toNat : Int)) = false := by rw [hxe, beq_eq_false_iff_ne]; exact hxy
      have HF := Ho (show r = false by
       rw [← HR.o, beq_eq_false_iff_ne]
       intro e
       have e1 := congrArg (fun l => l.take (i + 1)) e
       unfold lws at e1 HTa HTb
       simp only [← List.map_take] at e1
       have e2 := HTa.o
       have e3 := HTb.o
       rw [e2, e3] at e1
       have e4 := List.append_inj_right' e1 rfl
       exact hxy (by simpa using e4))
      clear hxy hxe
      simp only [Act.put, List.setIfInBounds_toArray]
      go_wp2
      go_ret
      rw [HF.o]
      exact ⟨rfl, HU.o.1.drew⟩
    have hilz : ¬ (i : Int) < (a.size : Int) := by omega
    have HT := Ho (show r = true by
     rw [← HR.o, beq_iff_eq]
     have h1 := HU.o.2
     rw [List.take_of_length_le (by rw [← HA.o]; omega), List.take_of_length_le (by rw [← HB.o]; have := HL.o; omega)] at h1
     exact h1)
    go_wp2
    go_ret
    rw [HT.o]
    exact ⟨rfl, HU.o.1⟩
 have hle : ((a.size : Int) == (b.size : Int)) = false := by rw [beq_eq_false_iff_ne]; omega
 have HF := Ho (show (lws a.data.toList == lws b.data.toList) = false by
  rw [beq_eq_false_iff_ne]
  intro e
  have := congrArg List.length e
  rw [lws_len, lws_len] at this
  omega)
 rw [HF.o]
 clear ha hb hl
 go_enter Tryz.func110, Tryz.ntmps110
 go_wp2
 go_ret
 exact ⟨rfl, Up.refl _⟩
def kdT : List (ByteArray × Int) := [(⟨#[72, 111, 115, 116]⟩, 1), (⟨#[67, 111, 110, 110, 101, 99, 116, 105, 111, 110]⟩, 2), (⟨#[84, 114, 97, 110, 115, 102, 101, 114, 45, 69, 110, 99, 111, 100, 105, 110, 103]⟩, 3), (⟨#[67, 111, 110, 116, 101, 110, 116, 45, 76, 101, 110, 103, 116, 104]⟩, 4)]
def kdR (k : Nat) : List Value := [.string ((kdT.getD k (⟨#[]⟩, 0)).1), .int .i64 ((kdT.getD k (⟨#[]⟩, 0)).2)]
def kdC : List Value := (List.range 4).flatMap kdR
theorem idx_kd (w : World) : ∀ k : Nat, k < 4 → (Instr.index 202 (.agg kdC.toArray) (.int .i64 (k : Int))).run Tryz.prog w = .ok (.agg (kdR k).toArray) w
 | 0, _ => by kernel_rfl
 | 1, _ => by kernel_rfl
 | 2, _ => by kernel_rfl
 | 3, _ => by kernel_rfl
theorem exec_kd {o : Oper} {ρ : Operand → Value} {x y : Operand} {w : World} (k : Nat) (hk : k < 4) (ho : o.op = .index 202 x y) (hx : ρ x = .agg kdC.toArray) (hy : ρ y = .int .i64 (k : Int)) : (execOp ρ o).run Tryz.prog w = .ok (.value (.agg (kdR k).toArray)) w := by
 have h := idx_kd w k hk
 unfold execOp
 simp only [ho, hx, hy]
 go_simp
def kdp (nm : ByteArray) (p : ByteArray × Int) : Bool := lws p.1.data.toList == lws nm.data.toList
def kdf (nm : ByteArray) : Int := match kdT.find? (kdp nm) with
 | some p => p.2
 | none => 0
theorem kdT_take {k : Nat} (hk : k < 4) : kdT.take (k + 1) = kdT.take k ++ [kdT.getD k (⟨#[]⟩, 0)] := by
 have h : k < kdT.length := hk
 rw [List.take_succ_eq_append_getElem h, List.getD_eq_getElem?_getD, List.getElem?_eq_getElem h]
 rfl
theorem kdT_split {k : Nat} (hk : k < 4) : kdT = kdT.take k ++ kdT.getD k (⟨#[]⟩, 0) :: kdT.drop (k + 1) := by
 have h : k < kdT.length := hk
 rw [List.getD_eq_getElem?_getD, List.getElem?_eq_getElem h]
 show kdT = kdT.take k ++ kdT[k] :: kdT.drop (k + 1)
 rw [← List.drop_eq_getElem_cons h, List.take_append_drop]
theorem kdT_small : ∀ k : Nat, k < 4 → (kdT.getD k (⟨#[]⟩, 0)).1.size ≤ 4611686018427387904 := by decide +kernel
set_option maxRecDepth 100000 in
set_option maxHeartbeats 1000000 in
theorem kindOf_walk (nm vl : ByteArray) (w : World) (hG : w.rangeAt 13 0 kdC) :
  Calls Tryz.prog 97 #[.agg #[.string nm, .string vl]] w fun e w' => e = .returned (.int .i64 (kdf nm)) ∧ Up w w' := by
 have HU0 := Ho ((Up.refl w).alloc (.cells #[.string nm, .string vl] 89))
 have HRn := Ho (range_up hG HU0.o)
 have HA := Ho (at_new w 89 [.string nm, .string vl])
 clear hG
 obtain ⟨rn, hrn⟩ := ny (kdf nm)
 have HN := Ho hrn
 rw [hrn]
 clear hrn
 go_enter Tryz.func97, Tryz.ntmps97
 go_wp2_with (with_reducible refine sL 202 ?_)
 show wpList _ _ _ _ _ _
 refine wpList_load_mid rfl _ _ rfl 13 0 rfl kdC _ HRn.o Tryz.underlying202 rfl (by kernel_rfl) ?_
 simp only [Act.put, pB, pC, pD]
 obtain ⟨vr, hvr⟩ := ny (Value.agg kdC.toArray)
 have HVR := Ho hvr
 rw [hvr]
 clear hvr
 go_wp2
 go_loopw [6] (fun v6 wr => ∃ i : Nat, v6 = .int .i64 (i : Int) ∧ i ≤ 4 ∧ Hd (Up w wr ∧ wr.cell? ⟨w.heap.size, 0, none⟩ = some (.string nm) ∧ (kdT.take i).find? (kdp nm) = none)) (fun v6 _ => 4 - (intOf v6).toNat)
 case atStart => exact ⟨0, rfl, Nat.zero_le _, Ho ⟨HU0.o, HA.o.cell (i := 0) rfl, rfl⟩⟩
 case round =>
  obtain ⟨i, rfl, hi, hU⟩ := hrel
  have HU := Ho hU.o
  clear hU
  by_cases hil : i < 4
  · have hiz : (i : Int) < 4 := by omega
    go_wp2_with (with_reducible show wpList _ _ _ (⟨_, .index 202 _ _, _, _, _, _⟩ :: _) _ _; refine Shut.out ?_)
    show wpList _ _ _ _ _ _
    refine wpList_val7 (.agg (kdR i).toArray) rfl (exec_kd i (by omega) rfl HVR.o.symm rfl) ?_
    simp only [Act.put, pB, pC, pD]
    have HX := Ho (show (kdT.take (i + 1)).find? (kdp nm) = if kdp nm (kdT.getD i (⟨#[]⟩, 0)) = true then some (kdT.getD i (⟨#[]⟩, 0)) else none by
     rw [kdT_take hil, List.find?_append, HU.o.2.2, List.find?_cons]
     cases kdp nm (kdT.getD i (⟨#[]⟩, 0)) <;> rfl)
    have HY := Ho (show kdp nm (kdT.getD i (⟨#[]⟩, 0)) = true → rn = (kdT.getD i (⟨#[]⟩, 0)).2 from fun e => by
     rw [← HN.o]
     unfold kdf
     have h1 : kdT.find? (kdp nm) = some (kdT.getD i (⟨#[]⟩, 0)) := by
      conv => lhs; rw [kdT_split hil]
      rw [List.find?_append, HU.o.2.2, List.find?_cons]
      simp only [e]
      rfl
     rw [h1])
    have HSm := Ho (kdT_small i hil)
    have hrf : kdR i = [.string ((kdT.getD i (⟨#[]⟩, 0)).1), .int .i64 ((kdT.getD i (⟨#[]⟩, 0)).2)] := rfl
    rw [hrf]
    clear hrf
    generalize kdT.getD i (⟨#[]⟩, 0) = p at *
    obtain ⟨si, ni⟩ := p
    dsimp only at *
    have hc0 : (wr.alloc (.cells #[.string si, .int .i64 ni] 201)).cell? ⟨w.heap.size, 0, none⟩ = some (.string nm) := ((Up.refl wr).alloc (.cells #[.string si, .int .i64 ni] 201)).cell HU.o.2.1
    have HUA := Ho (HU.o.1.alloc (.cells #[.string si, .int .i64 ni] 201))
    have HAn := Ho (at_new wr 201 [.string si, .int .i64 ni])
    have HSW := Ho (sameWord_walk si nm (wr.alloc (.cells #[.string si, .int .i64 ni] 201)) HSm.o)
    go_wp2_with fail
    refine HSW.o.mono ?_
    rintro e w5 ⟨rfl, h9⟩
    have HU5 := Ho (HUA.o.trans h9)
    have HC5 := Ho (h9.cell hc0)
    have c1 : w5.cell? ⟨wr.heap.size, 1, none⟩ = some (.int .i64 ni) := h9.cell (HAn.o.cell (i := 1) rfl)
    clear h9 hc0
    dsimp only
    cases hne : (lws si.data.toList == lws nm.data.toList) with
    | true =>
     have HE := Ho (HY.o hne)
     go_wp2
     go_ret
     rw [HE.o]
     exact ⟨rfl, HU5.o⟩
    | false =>
     have HX2 := Ho (show (kdT.take (i + 1)).find? (kdp nm) = none by rw [HX.o, if_neg (by unfold kdp; rw [hne]; simp)])
     go_wp2
     go_roundw
     all_goals first
      | exact ⟨i + 1, by go_num, by omega, Ho ⟨HU5.o, HC5.o, HX2.o⟩⟩
      | (simp [intOf]; omega)
  have hiz : ¬ (i : Int) < 4 := by omega
  have hi4 : i = 4 := by omega
  subst hi4
  have HE := Ho (show rn = 0 by
   rw [← HN.o]
   unfold kdf
   have h2 : (kdT.take 4).find? (kdp nm) = none := HU.o.2.2
   rw [show kdT.take 4 = kdT from rfl] at h2
   rw [h2])
  go_wp2
  go_ret
  rw [HE.o]
  exact ⟨rfl, HU.o.1⟩
end Go.Proofs.YtehnnlhoajdcaaaGreatDoor
