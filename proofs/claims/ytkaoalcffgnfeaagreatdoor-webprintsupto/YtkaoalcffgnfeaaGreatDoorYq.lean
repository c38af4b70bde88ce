import Derived.Test.YtkaoalcffgnfeaaGreatDoorYp
namespace Go.Proofs.YtkaoalcffgnfeaaGreatDoor
open Go.RowKit TextNum
def mtT : List ByteArray := [⟨#[71, 69, 84]⟩, ⟨#[72, 69, 65, 68]⟩, ⟨#[80, 79, 83, 84]⟩, ⟨#[80, 85, 84]⟩, ⟨#[68, 69, 76, 69, 84, 69]⟩, ⟨#[67, 79, 78, 78, 69, 67, 84]⟩, ⟨#[79, 80, 84, 73, 79, 78, 83]⟩, ⟨#[84, 82, 65, 67, 69]⟩, ⟨#[80, 65, 84, 67, 72]⟩]
def mtC : List Value := (List.range 9).map fun k => .string (mtT.getD k ⟨#[]⟩)
theorem idx_mt (w : World) : ∀ k : Nat, k < 9 → (Instr.index 139 (.agg mtC.toArray) (.int .i64 (k : Int))).run Tryz.prog w = .ok (.string (mtT.getD k ⟨#[]⟩)) w
 | 0, _ => by kernel_rfl
 | 1, _ => by kernel_rfl
 | 2, _ => by kernel_rfl
 | 3, _ => by kernel_rfl
 | 4, _ => by kernel_rfl
 | 5, _ => by kernel_rfl
 | 6, _ => by kernel_rfl
 | 7, _ => by kernel_rfl
 | 8, _ => by kernel_rfl
theorem exec_mt {o : Oper} {ρ : Operand → Value} {x y : Operand} {w : World} (k : Nat) (hk : k < 9) (ho : o.op = .index 139 x y) (hx : ρ x = .agg mtC.toArray) (hy : ρ y = .int .i64 (k : Int)) : (execOp ρ o).run Tryz.prog w = .ok (.value (.string (mtT.getD k ⟨#[]⟩))) w := by
 have h := idx_mt w k hk
 unfold execOp
 simp only [ho, hx, hy]
 go_simp
def mtk (s : ByteArray) : Bool := mtT.any fun m => s.toList == m.toList
theorem mtT_take {k : Nat} (hk : k < 9) : mtT.take (k + 1) = mtT.take k ++ [mtT.getD k ⟨#[]⟩] := by
 have h : k < mtT.length := hk
 rw [List.take_succ_eq_append_getElem h, List.getD_eq_getElem?_getD, List.getElem?_eq_getElem h]
 rfl
theorem mtT_mem {k : Nat} (hk : k < 9) : mtT.getD k ⟨#[]⟩ ∈ mtT := by
 have h : k < mtT.length := hk
 rw [List.getD_eq_getElem?_getD, List.getElem?_eq_getElem h]
 exact List.getElem_mem h
set_option maxRecDepth 100000 in
set_option maxHeartbeats 1000000 in
theorem isKnownMethod_walk (s : ByteArray) (w : World) (hG : w.rangeAt 17 0 mtC) : Calls Tryz.prog 89 #[.string s] w fun e w' => e = .returned (.bool (mtk s)) ∧ Up w w' := by
 have HRn := Ho hG
 clear hG
 obtain ⟨rn, hrn⟩ := ny (mtk s)
 have HN := Ho hrn
 rw [hrn]
 clear hrn
 go_enter Tryz.func89, Tryz.ntmps89
 go_wp2_with (with_reducible refine sL 139 ?_)
 show wpList _ _ _ _ _ _
 refine wpList_load_mid rfl _ _ rfl 17 0 rfl mtC _ HRn.o Tryz.underlying139 rfl (by kernel_rfl) ?_
 simp only [Act.put, pB, pC, pD]
 obtain ⟨vr, hvr⟩ := ny (Value.agg mtC.toArray)
 have HVR := Ho hvr
 rw [hvr]
 clear hvr
 go_wp2
 go_loopw [6] (fun v6 wr => ∃ i : Nat, v6 = .int .i64 (i : Int) ∧ i ≤ 9 ∧ Hd (Up w wr ∧ ((mtT.take i).any fun m => s.toList == m.toList) = false)) (fun v6 _ => 9 - (intOf v6).toNat)
 case atStart => exact ⟨0, rfl, Nat.zero_le _, Ho ⟨Up.refl _, rfl⟩⟩
 case round =>
  obtain ⟨i, rfl, hi, hU⟩ := hrel
  have HU := Ho hU.o
  clear hU
  by_cases hil : i < 9
  · have hiz : (i : Int) < 9 := by omega
    go_wp2_with (with_reducible show wpList _ _ _ (⟨_, .index 139 _ _, _, _, _, _⟩ :: _) _ _; refine Shut.out ?_)
    show wpList _ _ _ _ _ _
    refine wpList_val7 (.string (mtT.getD i ⟨#[]⟩)) rfl (exec_mt i (by omega) rfl HVR.o.symm rfl) ?_
    simp only [Act.put, pB, pC, pD]
    have HX := Ho (show ((mtT.take (i + 1)).any fun m => s.toList == m.toList) = (s.toList == (mtT.getD i ⟨#[]⟩).toList) by
     rw [mtT_take hil, List.any_append, HU.o.2]
     simp)
    have HY := Ho (show (s.toList == (mtT.getD i ⟨#[]⟩).toList) = true → rn = true from fun e => by
     rw [← HN.o]
     unfold mtk
     rw [List.any_eq_true]
     exact ⟨_, mtT_mem hil, e⟩)
    generalize mtT.getD i ⟨#[]⟩ = m at *
    cases hne : (s.toList == m.toList) with
    | true =>
     have HE := Ho (HY.o hne)
     go_wp2
     go_ret
     rw [HE.o]
     exact ⟨rfl, HU.o.1⟩
    | false =>
     rw [hne] at HX
     go_wp2
     go_roundw
     all_goals first
      | exact ⟨i + 1, by go_num, by omega, Ho ⟨HU.o.1, HX.o⟩⟩
      | (simp [intOf]; omega)
  · have hiz : ¬ (i : Int) < 9 := by omega
    have hi9 : i = 9 := by omega
    subst hi9
    have HE := Ho (show rn = false by
     rw [← HN.o]
     exact HU.o.2)
    go_wp2
    go_ret
    rw [HE.o]
    exact ⟨rfl, HU.o.1⟩
end Go.Proofs.YtkaoalcffgnfeaaGreatDoor
