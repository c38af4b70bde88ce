import Derived.Test.YtehnnlhoajdcaaaGreatDoorMg
import Derived.Test.YtehnnlhoajdcaaaGreatDoorMf
import Derived.Shelf.Small.Wraps
namespace Go.Proofs.YtehnnlhoajdcaaaGreatDoor
open Go.RowKit TextNum
def htp : ByteArray := ⟨#[72, 84, 84, 80, 47]⟩
def v3 (l : List UInt8) : Bool := match l with
 | [a, b, c] => isD a && b == 46 && isD c
 | _ => false
def vok (l : List UInt8) : Bool := Go.Lib.hasPrefix l htp.data.toList && v3 (l.drop 5)
theorem three {s : ByteArray} (h : s.size = 3) : s.data.toList = [s[0], s[1], s[2]] := by
 have hl : s.data.toList.length = 3 := by rw [← Go.Lib.size_eq]; exact h
 match hm : s.data.toList, hl with
 | [a, b, c], _ =>
  have h0 : s[0] = a := by rw [sget' s 0 (by omega)]; simp [hm]
  have h1 : s[1] = b := by rw [sget' s 1 (by omega)]; simp [hm]
  have h2 : s[2] = c := by rw [sget' s 2 (by omega)]; simp [hm]
  rw [h0, h1, h2]
theorem v3_no {l : List UInt8} (h : l.length ≠ 3) : v3 l = false := by
 match l with
 | [] => rfl
 | [_] => rfl
 | [_, _] => rfl
 | [a, b, c] => exact absurd rfl h
 | _ :: _ :: _ :: _ :: _ => rfl
set_option maxRecDepth 100000 in
set_option maxHeartbeats 1000000 in
theorem isVersion_walk (s : ByteArray) (w : World) : Calls Tryz.prog 147 #[.string s] w fun e w' => e = .returned (.bool (vok s.data.toList)) ∧ w' = w := by
 have hC : Calls Tryz.prog 176 #[.string s, .string htp] w _ := Any.strings_CutPrefix Tryz.lays103 s htp w
 cases hp : Go.Lib.hasPrefix s.data.toList htp.data.toList with
 | false =>
  rw [hp] at hC
  have HE := Ho (show vok s.data.toList = false by unfold vok; rw [hp]; rfl)
  generalize Go.Lib.trimPrefix s.data.toList htp.data.toList = tl at *
  unfold htp at hC
  have HC := Ho hC
  clear hC hp
  go_enter Tryz.func147, Tryz.ntmps147
  go_wp2_with fail
  refine HC.o.mono ?_
  rintro e w9 ⟨rfl, h9⟩
  obtain rfl := h9.symm
  clear h9
  dsimp only
  go_wp2
  go_ret
  rw [HE.o]
  exact ⟨rfl, rfl⟩
 | true =>
  rw [hp] at hC
  have htr : Go.Lib.trimPrefix s.data.toList htp.data.toList = s.data.toList.drop 5 := by
   unfold Go.Lib.trimPrefix
   rw [if_pos hp]
   rfl
  rw [htr] at hC
  obtain ⟨t, ht⟩ := ny (⟨(s.data.toList.drop 5).toArray⟩ : ByteArray)
  have htd : t.data.toList = s.data.toList.drop 5 := by rw [← ht]
  rw [ht] at hC
  unfold htp at hC
  have HC := Ho hC
  have HV := Ho (show vok s.data.toList = v3 t.data.toList by unfold vok; rw [hp, htd]; rfl)
  clear hC hp ht htd htr
  by_cases h3 : t.size = 3
  · have z3 : ((t.size : Int) == 3) = true := by rw [h3]; rfl
    have zz0 : (0 : Int) < (t.size : Int) := by omega
    have zz1 : (1 : Int) < (t.size : Int) := by omega
    have zz2 : (2 : Int) < (t.size : Int) := by omega
    have hx0 : 0 < t.size := by omega
    have hx1 : 1 < t.size := by omega
    have hx2 : 2 < t.size := by omega
    have HT : Hd (t.data.toList = [t[0]'hx0, t[1]'hx1, t[2]'hx2]) := Ho (three h3)
    clear h3
    obtain ⟨x0, g0⟩ : ∃ x, t[0]'hx0 = x := ⟨_, rfl⟩
    obtain ⟨x1, g1⟩ : ∃ x, t[1]'hx1 = x := ⟨_, rfl⟩
    obtain ⟨x2, g2⟩ : ∃ x, t[2]'hx2 = x := ⟨_, rfl⟩
    rw [g0, g1, g2] at HT
    have D0 := Ho (isDigit_walk x0 w)
    have D2 := Ho (isDigit_walk x2 w)
    have h46 : ((x1.toNat : Int) == 46) = (x1 == 46) := u8_eq (a := x1) (b := 46)
    have HR := Ho (show v3 t.data.toList = (isD x0 && x1 == 46 && isD x2) by rw [HT.o]; rfl)
    cases d0 : isD x0 with
    | false =>
     rw [d0] at D0 HR
     have HE := Ho (HV.o.trans HR.o)
     clear h46
     go_enter Tryz.func147, Tryz.ntmps147
     go_wp2_with fail
     refine HC.o.mono ?_
     rintro e w9 ⟨rfl, h9⟩
     obtain rfl := h9.symm
     clear h9
     dsimp only
     go_wp2_with fail
     refine D0.o.mono ?_
     rintro e w9 ⟨rfl, h9⟩
     obtain rfl := h9.symm
     clear h9
     dsimp only
     go_wp2
     go_ret
     rw [HE.o]
     exact ⟨rfl, rfl⟩
    | true =>
     rw [d0] at D0 HR
     cases d1 : (x1 == 46) with
     | false =>
      rw [d1] at HR h46
      have HE := Ho (HV.o.trans HR.o)
      clear d1
      go_enter Tryz.func147, Tryz.ntmps147
      go_wp2_with fail
      refine HC.o.mono ?_
      rintro e w9 ⟨rfl, h9⟩
      obtain rfl := h9.symm
      clear h9
      dsimp only
      go_wp2_with fail
      refine D0.o.mono ?_
      rintro e w9 ⟨rfl, h9⟩
      obtain rfl := h9.symm
      clear h9
      dsimp only
      go_wp2
      go_ret
      rw [HE.o]
      exact ⟨rfl, rfl⟩
     | true =>
      rw [d1] at HR h46
      have HE := Ho (show vok s.data.toList = isD x2 by rw [HV.o, HR.o]; simp)
      clear d1
      go_enter Tryz.func147, Tryz.ntmps147
      go_wp2_with fail
      refine HC.o.mono ?_
      rintro e w9 ⟨rfl, h9⟩
      obtain rfl := h9.symm
      clear h9
      dsimp only
      go_wp2_with fail
      refine D0.o.mono ?_
      rintro e w9 ⟨rfl, h9⟩
      obtain rfl := h9.symm
      clear h9
      dsimp only
      go_wp2_with fail
      refine D2.o.mono ?_
      rintro e w9 ⟨rfl, h9⟩
      obtain rfl := h9.symm
      clear h9
      dsimp only
      go_wp2
      go_ret
      rw [HE.o]
      exact ⟨rfl, rfl⟩
  have z3 : ((t.size : Int) == 3) = false := by rw [beq_eq_false_iff_ne]; omega
  have HE := Ho (show vok s.data.toList = false by rw [HV.o]; exact v3_no (by rw [← Go.Lib.size_eq]; exact h3))
  go_enter Tryz.func147, Tryz.ntmps147
  go_wp2_with fail
  refine HC.o.mono ?_
  rintro e w9 ⟨rfl, h9⟩
  obtain rfl := h9.symm
  clear h9
  dsimp only
  go_wp2
  go_ret
  rw [HE.o]
  exact ⟨rfl, rfl⟩
def mtT : List ByteArray := [⟨#[71, 69, 84]⟩, ⟨#[72, 69, 65, 68]⟩, ⟨#[80, 79, 83, 84]⟩, ⟨#[80, 85, 84]⟩, ⟨#[68, 69, 76, 69, 84, 69]⟩, ⟨#[67, 79, 78, 78, 69, 67, 84]⟩, ⟨#[79, 80, 84, 73, 79, 78, 83]⟩, ⟨#[84, 82, 65, 67, 69]⟩, ⟨#[80, 65, 84, 67, 72]⟩]
def mtC : List Value := (List.range 9).map fun k => .string (mtT.getD k ⟨#[]⟩)
theorem idx_mt (w : World) : ∀ k : Nat, k < 9 → (Instr.index 153 (.agg mtC.toArray) (.int .i64 (k : Int))).run Tryz.prog w = .ok (.string (mtT.getD k ⟨#[]⟩)) w
 | 0, _ => by kernel_rfl
 | 1, _ => by kernel_rfl
 | 2, _ => by kernel_rfl
 | 3, _ => by kernel_rfl
 | 4, _ => by kernel_rfl
 | 5, _ => by kernel_rfl
 | 6, _ => by kernel_rfl
 | 7, _ => by kernel_rfl
 | 8, _ => by kernel_rfl
theorem exec_mt {o : Oper} {ρ : Operand → Value} {x y : Operand} {w : World} (k : Nat) (hk : k < 9) (ho : o.op = .index 153 x y) (hx : ρ x = .agg mtC.toArray) (hy : ρ y = .int .i64 (k : Int)) : (execOp ρ o).run Tryz.prog w = .ok (.value (.string (mtT.getD k ⟨#[]⟩))) w := by
 have h := idx_mt w k hk
 unfold execOp
 simp only [ho, hx, hy]
 go_simp
def mtk (s : ByteArray) : Bool := mtT.any fun m => s.toList == m.toList
theorem mtT_take {k : Nat} (hk : k < 9) : mtT.take (k + 1) = mtT.take k ++ [mtT.getD k ⟨#[]⟩] := by
 have h : k < mtT.length := hk
 rw [List.take_succ_eq_append_getElem h, List.getD_eq_getElem?_getD, List.getElem?_eq_getElem h]
 rfl
theorem mtT_mem {k : Nat} (hk : k < 9) : mtT.getD k ⟨#[]⟩ ∈ mtT := by
 have h : k < mtT.length := hk
 rw [List.getD_eq_getElem?_getD, List.getElem?_eq_getElem h]
 exact List.getElem_mem h
set_option maxRecDepth 100000 in
set_option maxHeartbeats 1000000 in
theorem isKnownMethod_walk (s : ByteArray) (w : World) (hG : w.rangeAt 14 0 mtC) : Calls Tryz.prog 103 #[.string s] w fun e w' => e = .returned (.bool (mtk s)) ∧ Up w w' := by
 have HRn := Ho hG
 clear hG
 obtain ⟨rn, hrn⟩ := ny (mtk s)
 have HN := Ho hrn
 rw [hrn]
 clear hrn
 go_enter Tryz.func103, Tryz.ntmps103
 go_wp2_with (with_reducible refine sL 153 ?_)
 show wpList _ _ _ _ _ _
 refine wpList_load_mid rfl _ _ rfl 14 0 rfl mtC _ HRn.o Tryz.underlying153 rfl (by kernel_rfl) ?_
 simp only [Act.put, pB, pC, pD]
 obtain ⟨vr, hvr⟩ := ny (Value.agg mtC.toArray)
 have HVR := Ho hvr
 rw [hvr]
 clear hvr
 go_wp2
 go_loopw [6] (fun v6 wr => ∃ i : Nat, v6 = .int .i64 (i : Int) ∧ i ≤ 9 ∧ Hd (Up w wr ∧ ((mtT.take i).any fun m => s.toList == m.toList) = false)) (fun v6 _ => 9 - (intOf v6).toNat)
 case atStart => exact ⟨0, rfl, Nat.zero_le _, Ho ⟨Up.refl _, rfl⟩⟩
 case round =>
  obtain ⟨i, rfl, hi, hU⟩ := hrel
  have HU := Ho hU.o
  clear hU
  by_cases hil : i < 9
  · have hiz : (i : Int) < 9 := by omega
    go_wp2_with (with_reducible show wpList _ _ _ (⟨_, .index 153 _ _, _, _, _, _⟩ :: _) _ _; refine Shut.out ?_)
    show wpList _ _ _ _ _ _
    refine wpList_val7 (.string (mtT.getD i ⟨#[]⟩)) rfl (exec_mt i (by omega) rfl HVR.o.symm rfl) ?_
    simp only [Act.put, pB, pC, pD]
    have HX := Ho (show ((mtT.take (i + 1)).any fun m => s.toList == m.toList) = (s.toList == (mtT.getD i ⟨#[]⟩).toList) by
     rw [mtT_take hil, List.any_append, HU.o.2]
     simp)
    have HY := Ho (show (s.toList == (mtT.getD i ⟨#[]⟩).toList) = true → rn = true from fun e => by
     rw [← HN.o]
     unfold mtk
     rw [List.any_eq_true]
     exact ⟨_, mtT_mem hil, e⟩)
    generalize mtT.getD i ⟨#[]⟩ = m at *
    cases hne : (s.toList == m.toList) with
    | true =>
     have HE := Ho (HY.o hne)
     go_wp2
     go_ret
     rw [HE.o]
     exact ⟨rfl, HU.o.1⟩
    | false =>
     rw [hne] at HX
     go_wp2
     go_roundw
     all_goals first
      | exact ⟨i + 1, by go_num, by omega, Ho ⟨HU.o.1, HX.o⟩⟩
      | (simp [intOf]; omega)
  have hiz : ¬ (i : Int) < 9 := by omega
  have hi9 : i = 9 := by omega
  subst hi9
  have HE := Ho (show rn = false by
   rw [← HN.o]
   exact HU.o.2)
  go_wp2
  go_ret
  rw [HE.o]
  exact ⟨rfl, HU.o.1⟩
end Go.Proofs.YtehnnlhoajdcaaaGreatDoor
