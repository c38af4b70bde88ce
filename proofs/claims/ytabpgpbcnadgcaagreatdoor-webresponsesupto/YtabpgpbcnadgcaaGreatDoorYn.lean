import Derived.Test.YtabpgpbcnadgcaaGreatDoorYm
namespace Go.Proofs.YtabpgpbcnadgcaaGreatDoor
open Go.RowKit TextNum
/-- the names of fields that say something of the message itself -/
def kdT : List (ByteArray × Int) := [(⟨#[72, 111, 115, 116]⟩, 1), (⟨#[67, 111, 110, 110, 101, 99, 116, 105, 111, 110]⟩, 2), (⟨#[84, 114, 97, 110, 115, 102, 101, 114, 45, 69, 110, 99, 111, 100, 105, 110, 103]⟩, 3), (⟨#[67, 111, 110, 116, 101, 110, 116, 45, 76, 101, 110, 103, 116, 104]⟩, 4)]
def kdR (k : Nat) : List Value := [.string ((kdT.getD k (⟨#[]⟩, 0)).1), .int .i64 ((kdT.getD k (⟨#[]⟩, 0)).2)]
def kdC : List Value := (List.range 4).flatMap kdR
theorem idx_kd (w : World) : ∀ k : Nat, k < 4 → (Instr.index 202 (.agg kdC.toArray) (.int .i64 (k : Int))).run Tryz.prog w = .ok (.agg (kdR k).toArray) w
  | 0, _ => by kernel_rfl
  | 1, _ => by kernel_rfl
  | 2, _ => by kernel_rfl
  | 3, _ => by kernel_rfl
theorem exec_kd {o : Oper} {ρ : Operand → Value} {x y : Operand} {w : World} (k : Nat) (hk : k < 4) (ho : o.op = .index 202 x y) (hx : ρ x = .agg kdC.toArray) (hy : ρ y = .int .i64 (k : Int)) : (execOp ρ o).run Tryz.prog w = .ok (.value (.agg (kdR k).toArray)) w := by
  have h := idx_kd w k hk
  unfold execOp
  simp only [ho, hx, hy]
  go_simp
/-- a field's kind -/
def kdp (nm : ByteArray) (p : ByteArray × Int) : Bool := lws p.1.data.toList == lws nm.data.toList
def kdf (nm : ByteArray) : Int := match kdT.find? (kdp nm) with
  | some p => p.2
  | none => 0
theorem kdT_take {k : Nat} (hk : k < 4) : kdT.take (k + 1) = kdT.take k ++ [kdT.getD k (⟨#[]⟩, 0)] := by
  have h : k < kdT.length := hk
  rw [List.take_succ_eq_append_getElem h, List.getD_eq_getElem?_getD, List.getElem?_eq_getElem h]
  rfl
theorem kdT_split {k : Nat} (hk : k < 4) : kdT = kdT.take k ++ kdT.getD k (⟨#[]⟩, 0) :: kdT.drop (k + 1) := by
  have h : k < kdT.length := hk
  rw [List.getD_eq_getElem?_getD, List.getElem?_eq_getElem h]
  show kdT = kdT.take k ++ kdT[k] :: kdT.drop (k + 1)
  rw [← List.drop_eq_getElem_cons h, List.take_append_drop]
theorem kdT_small : ∀ k : Nat, k < 4 → (kdT.getD k (⟨#[]⟩, 0)).1.size ≤ 4611686018427387904 := by decide +kernel
set_option maxRecDepth 100000 in
set_option maxHeartbeats 1000000 in
theorem kindOf_walk (nm vl : ByteArray) (w : World) (hG : w.rangeAt 13 0 kdC) :
    Calls Tryz.prog 97 #[.agg #[.string nm, .string vl]] w fun e w' => e = .returned (.int .i64 (kdf nm)) ∧ Up w w' := by
  have HU0 := Hid.of ((Up.refl w).alloc (.cells #[.string nm, .string vl] 89))
  have HRn := Hid.of (range_up hG HU0.out)
  have HA := Hid.of (at_new w 89 [.string nm, .string vl])
  clear hG
  obtain ⟨rn, hrn⟩ : ∃ rn, kdf nm = rn := ⟨_, rfl⟩
  have HN := Hid.of hrn
  rw [hrn]
  clear hrn
  go_enter Tryz.func97, Tryz.ntmps97
  go_wp2_with (with_reducible show wpList _ _ _ ({ dst := _, op := Op.load 202 _, type := _, pos := _, after := _, guard := _ } :: _) _ _; refine Shut.out ?_)
  show wpList _ _ _ _ _ _
  refine wpList_load_mid rfl _ _ rfl 13 0 rfl kdC _ HRn.out Tryz.underlying202 rfl (by kernel_rfl) ?_
  simp only [Act.put, List.setIfInBounds_toArray, List.set_cons_zero, List.set_cons_succ]
  obtain ⟨vr, hvr⟩ : ∃ vr, Value.agg kdC.toArray = vr := ⟨_, rfl⟩
  have HVR := Hid.of hvr
  rw [hvr]
  clear hvr
  go_wp2
  go_loopw [6] (fun v6 wr => ∃ i : Nat, v6 = .int .i64 (i : Int) ∧ i ≤ 4 ∧ Hid (Up w wr ∧ wr.cell? ⟨w.heap.size, 0, none⟩ = some (.string nm) ∧ (kdT.take i).find? (kdp nm) = none)) (fun v6 _ => 4 - (intOf v6).toNat)
  case atStart => exact ⟨0, rfl, Nat.zero_le _, Hid.of ⟨HU0.out, HA.out.cell (i := 0) rfl, rfl⟩⟩
  case round =>
    obtain ⟨i, rfl, hi, hU⟩ := hrel
    have HU := Hid.of hU.out
    clear hU
    by_cases hil : i < 4
    · have hiz : (i : Int) < 4 := by omega
      go_wp2_with (with_reducible show wpList _ _ _ ({ dst := _, op := Op.index 202 _ _, type := _, pos := _, after := _, guard := _ } :: _) _ _; refine Shut.out ?_)
      show wpList _ _ _ _ _ _
      refine wpList_val7 (.agg (kdR i).toArray) rfl (exec_kd i (by omega) rfl HVR.out.symm rfl) ?_
      simp only [Act.put, List.setIfInBounds_toArray, List.set_cons_zero, List.set_cons_succ]
      have HX := Hid.of (show (kdT.take (i + 1)).find? (kdp nm) = if kdp nm (kdT.getD i (⟨#[]⟩, 0)) = true then some (kdT.getD i (⟨#[]⟩, 0)) else none by
        rw [kdT_take hil, List.find?_append, HU.out.2.2, List.find?_cons]
        cases kdp nm (kdT.getD i (⟨#[]⟩, 0)) <;> rfl)
      have HY := Hid.of (show kdp nm (kdT.getD i (⟨#[]⟩, 0)) = true → rn = (kdT.getD i (⟨#[]⟩, 0)).2 from fun e => by
        rw [← HN.out]
        unfold kdf
        have h1 : kdT.find? (kdp nm) = some (kdT.getD i (⟨#[]⟩, 0)) := by
          conv => lhs; rw [kdT_split hil]
          rw [List.find?_append, HU.out.2.2, List.find?_cons]
          simp only [e]
          rfl
        rw [h1])
      have HSm := Hid.of (kdT_small i hil)
      have hrf : kdR i = [.string ((kdT.getD i (⟨#[]⟩, 0)).1), .int .i64 ((kdT.getD i (⟨#[]⟩, 0)).2)] := rfl
      rw [hrf]
      clear hrf
      generalize kdT.getD i (⟨#[]⟩, 0) = p at *
      obtain ⟨si, ni⟩ := p
      dsimp only at *
      have hc0 : (wr.alloc (.cells #[.string si, .int .i64 ni] 201)).cell? ⟨w.heap.size, 0, none⟩ = some (.string nm) := ((Up.refl wr).alloc (.cells #[.string si, .int .i64 ni] 201)).cell HU.out.2.1
      have HUA := Hid.of (HU.out.1.alloc (.cells #[.string si, .int .i64 ni] 201))
      have HAn := Hid.of (at_new wr 201 [.string si, .int .i64 ni])
      have HSW := Hid.of (sameWord_walk si nm (wr.alloc (.cells #[.string si, .int .i64 ni] 201)) HSm.out)
      go_wp2_with fail
      refine HSW.out.mono ?_
      rintro e w5 ⟨rfl, h9⟩
      have HU5 := Hid.of (HUA.out.trans h9)
      have HC5 := Hid.of (h9.cell hc0)
      have c1 : w5.cell? ⟨wr.heap.size, 1, none⟩ = some (.int .i64 ni) := h9.cell (HAn.out.cell (i := 1) rfl)
      clear h9 hc0
      dsimp only
      cases hne : (lws si.data.toList == lws nm.data.toList) with
      | true =>
        have HE := Hid.of (HY.out hne)
        go_wp2
        go_ret
        rw [HE.out]
        exact ⟨rfl, HU5.out⟩
      | false =>
        have HX2 := Hid.of (show (kdT.take (i + 1)).find? (kdp nm) = none by rw [HX.out, if_neg (by unfold kdp; rw [hne]; simp)])
        go_wp2
        go_roundw
        all_goals first
          | exact ⟨i + 1, by go_num, by omega, Hid.of ⟨HU5.out, HC5.out, HX2.out⟩⟩
          | (simp [intOf]; omega)
    · have hiz : ¬ (i : Int) < 4 := by omega
      have hi4 : i = 4 := by omega
      subst hi4
      have HE := Hid.of (show rn = 0 by
        rw [← HN.out]
        unfold kdf
        have h2 : (kdT.take 4).find? (kdp nm) = none := HU.out.2.2
        rw [show kdT.take 4 = kdT from rfl] at h2
        rw [h2])
      go_wp2
      go_ret
      rw [HE.out]
      exact ⟨rfl, HU.out.1⟩
end Go.Proofs.YtabpgpbcnadgcaaGreatDoor
