import Derived.Test.YtkaoalcffgnfeaaGreatDoorYm
namespace Go.Proofs.YtkaoalcffgnfeaaGreatDoor
open Go.RowKit TextNum
def kdT : List (ByteArray × Int) := [(⟨#[72, 111, 115, 116]⟩, 1), (⟨#[67, 111, 110, 110, 101, 99, 116, 105, 111, 110]⟩, 2), (⟨#[84, 114, 97, 110, 115, 102, 101, 114, 45, 69, 110, 99, 111, 100, 105, 110, 103]⟩, 3), (⟨#[67, 111, 110, 116, 101, 110, 116, 45, 76, 101, 110, 103, 116, 104]⟩, 4)]
def kdR (k : Nat) : List Value := [.string ((kdT.getD k (⟨#[]⟩, 0)).1), .int .i64 ((kdT.getD k (⟨#[]⟩, 0)).2)]
def kdC : List Value := (List.range 4).flatMap kdR
theorem idx_kd (w : World) : ∀ k : Nat, k < 4 → (Instr.index 184 (.agg kdC.toArray) (.int .i64 (k : Int))).run Tryz.prog w = .ok (.agg (kdR k).toArray) w
 | 0, _ => by kernel_rfl
 | 1, _ => by kernel_rfl
 | 2, _ => by kernel_rfl
 | 3, _ => by kernel_rfl
theorem exec_kd {o : Oper} {ρ : Operand → Value} {x y : Operand} {w : World} (k : Nat) (hk : k < 4) (ho : o.op = .index 184 x y) (hx : ρ x = .agg kdC.toArray) (hy : ρ y = .int .i64 (k : Int)) : (execOp ρ o).run Tryz.prog w = .ok (.value (.agg (kdR k).toArray)) w := by
 have h := idx_kd w k hk
 unfold execOp
 simp only [ho, hx, hy]
 go_simp
def kdp (nm : ByteArray) (p : ByteArray × Int) : Bool := lws p.1.data.toList == lws nm.data.toList
def kdf (nm : ByteArray) : Int := match kdT.find? (kdp nm) with
 | some p => p.2
 | none => 0
theorem kdT_take {k : Nat} (hk : k < 4) : kdT.take (k + 1) = kdT.take k ++ [kdT.getD k (⟨#[]⟩, 0)] := by
 have h : k < kdT.length := hk
 rw [List.take_succ_eq_append_getElem h, List.getD_eq_getElem?_getD, List.getElem?_eq_getElem h]
 rfl
theorem kdT_split {k : Nat} (hk : k < 4) : kdT = kdT.take k ++ kdT.getD k (⟨#[]⟩, 0) :: kdT.drop (k + 1) := by
 have h : k < kdT.length := hk
 rw [List.getD_eq_getElem?_getD, List.getElem?_eq_getElem h]
 show kdT = kdT.take k ++ kdT[k] :: kdT.drop (k + 1)
 rw [← List.drop_eq_getElem_cons h, List.take_append_drop]
theorem kdT_small : ∀ k : Nat, k < 4 → (kdT.getD k (⟨#[]⟩, 0)).1.size ≤ 4611686018427387904 := by decide +kernel
set_option maxRecDepth 100000 in
set_option maxHeartbeats 1000000 in
theorem kindOf_walk (nm vl : ByteArray) (w : World) (hG : w.rangeAt 16 0 kdC) :
 Calls Tryz.prog 83 #[.agg #[.string nm, .string vl]] w fun e w' => e = .returned (.int .i64 (kdf nm)) ∧ Up w w' := by
 have HU0 := Ho ((Up.refl w).alloc (.cells #[.string nm, .string vl] 87))
 have HRn := Ho (range_up hG HU0.o)
 have HA := Ho (at_new w 87 [.string nm, .string vl])
 clear hG
 obtain ⟨rn, hrn⟩ := ny (kdf nm)
 have HN := Ho hrn
 rw [hrn]
 clear hrn
 go_enter Tryz.func83, Tryz.ntmps83
 go_wp2_with (with_reducible refine sL 184 ?_)
 show wpList _ _ _ _ _ _
 refine wpList_load_mid rfl _ _ rfl 16 0 rfl kdC _ HRn.o Tryz.underlying184 rfl (by kernel_rfl) ?_
 simp only [Act.put, pB, pC, pD]
 obtain ⟨vr, hvr⟩ := ny (Value.agg kdC.toArray)
 have HVR := Ho hvr
 rw [hvr]
 clear hvr
 go_wp2
 go_loopw [6] (fun v6 wr => ∃ i : Nat, v6 = .int .i64 (i : Int) ∧ i ≤ 4 ∧ Hd (Up w wr ∧ wr.cell? ⟨w.heap.size, 0, none⟩ = some (.string nm) ∧ (kdT.take i).find? (kdp nm) = none)) (fun v6 _ => 4 - (intOf v6).toNat)
 case atStart => exact ⟨0, rfl, Nat.zero_le _, Ho ⟨HU0.o, HA.o.cell (i := 0) rfl, rfl⟩⟩
 case round =>
  obtain ⟨i, rfl, hi, hU⟩ := hrel
  have HU := Ho hU.o
  clear hU
  by_cases hil : i < 4
  · have hiz : (i : Int) < 4 := by omega
    go_wp2_with (with_reducible show wpList _ _ _ (⟨_, .index 184 _ _, _, _, _, _⟩ :: _) _ _; refine Shut.out ?_)
    show wpList _ _ _ _ _ _
    refine wpList_val7 (.agg (kdR i).toArray) rfl (exec_kd i (by omega) rfl HVR.o.symm rfl) ?_
    simp only [Act.put, pB, pC, pD]
    have HX := Ho (show (kdT.take (i + 1)).find? (kdp nm) = if kdp nm (kdT.getD i (⟨#[]⟩, 0)) = true then some (kdT.getD i (⟨#[]⟩, 0)) else none by
     rw [kdT_take hil, List.find?_append, HU.o.2.2, List.find?_cons]
     cases kdp nm (kdT.getD i (⟨#[]⟩, 0)) <;> rfl)
    have HY := Ho (show kdp nm (kdT.getD i (⟨#[]⟩, 0)) = true → rn = (kdT.getD i (⟨#[]⟩, 0)).2 from fun e => by
     rw [← HN.o]
     unfold kdf
     have h1 : kdT.find? (kdp nm) = some (kdT.getD i (⟨#[]⟩, 0)) := by
      conv => lhs; rw [kdT_split hil]
      rw [List.find?_append, HU.o.2.2, List.find?_cons]
      simp only [e]
      rfl
     rw [h1])
    have HSm := Ho (kdT_small i hil)
    have hrf : kdR i = [.string ((kdT.getD i (⟨#[]⟩, 0)).1), .int .i64 ((kdT.getD i (⟨#[]⟩, 0)).2)] := rfl
    rw [hrf]
    clear hrf
    generalize kdT.getD i (⟨#[]⟩, 0) = p at *
    obtain ⟨si, ni⟩ := p
    dsimp only at *
    have hc0 : (wr.alloc (.cells #[.string si, .int .i64 ni] 183)).cell? ⟨w.heap.size, 0, none⟩ = some (.string nm) := ((Up.refl wr).alloc (.cells #[.string si, .int .i64 ni] 183)).cell HU.o.2.1
    have HUA := Ho (HU.o.1.alloc (.cells #[.string si, .int .i64 ni] 183))
    have HAn := Ho (at_new wr 183 [.string si, .int .i64 ni])
    have HSW := Ho (sameWord_walk si nm (wr.alloc (.cells #[.string si, .int .i64 ni] 183)) HSm.o)
    go_wp2_with fail
    refine HSW.o.mono ?_
    rintro e w5 ⟨rfl, h9⟩
    have HU5 := Ho (HUA.o.trans h9)
    have HC5 := Ho (h9.cell hc0)
    have c1 : w5.cell? ⟨wr.heap.size, 1, none⟩ = some (.int .i64 ni) := h9.cell (HAn.o.cell (i := 1) rfl)
    clear h9 hc0
    dsimp only
    cases hne : (lws si.data.toList == lws nm.data.toList) with
    | true =>
     have HE := Ho (HY.o hne)
     go_wp2
     go_ret
     rw [HE.o]
     exact ⟨rfl, HU5.o⟩
    | false =>
     have HX2 := Ho (show (kdT.take (i + 1)).find? (kdp nm) = none by rw [HX.o, if_neg (by unfold kdp; rw [hne]; simp)])
     go_wp2
     go_roundw
     all_goals first
      | exact ⟨i + 1, by go_num, by omega, Ho ⟨HU5.o, HC5.o, HX2.o⟩⟩
      | (simp [intOf]; omega)
  · have hiz : ¬ (i : Int) < 4 := by omega
    have hi4 : i = 4 := by omega
    subst hi4
    have HE := Ho (show rn = 0 by
     rw [← HN.o]
     unfold kdf
     have h2 : (kdT.take 4).find? (kdp nm) = none := HU.o.2.2
     rw [show kdT.take 4 = kdT from rfl] at h2
     rw [h2])
    go_wp2
    go_ret
    rw [HE.o]
    exact ⟨rfl, HU.o.1⟩
end Go.Proofs.YtkaoalcffgnfeaaGreatDoor
