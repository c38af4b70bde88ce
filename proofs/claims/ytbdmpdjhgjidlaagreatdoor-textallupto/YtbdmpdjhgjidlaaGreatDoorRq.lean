import Derived.Test.YtbdmpdjhgjidlaaGreatDoorPc
namespace Go.Proofs.YtbdmpdjhgjidlaaGreatDoor
open Go.RowKit TextNum

/-- the digits' text -/
def DS : ByteArray := ⟨#[48, 49, 50, 51, 52, 53, 54, 55, 56, 57, 97, 98, 99, 100, 101, 102]⟩
theorem DS_size : DS.size = 16 := rfl
theorem DS_get (k : Nat) (h : k < 16) : DS[k]'h = dg k := (by decide : ∀ k : Fin 16, DS[k.1]'(k.2) = dg k.1) ⟨k, h⟩

set_option maxRecDepth 100000 in
theorem own_lit (w : World) (l : List UInt8) (h : l.length ≤ 1000 := by decide) : Own (w.alloc (.cells (cb l).toArray 5)) w.heap.size (.slice (some ⟨w.heap.size, 0, none⟩) l.length l.length) l := by
  have := World.ownsRow_lit (base := w.heap.size) (e := 5) (size := 1) w (cb l).toArray l.length (Nat.le_refl _) (by unfold maxLen; omega) (by simp [cb])
  simpa [Own] using this
set_option linter.unusedSimpArgs false in
set_option maxRecDepth 100000 in
set_option maxHeartbeats 2000000 in
theorem RQuote_walk (v : Value) (l : List UInt8) (w : World) (hS : Sl w v l) (hl : l.length ≤ 1099511627776) :
    Calls Tryz.prog 22 #[v] w fun e w' => e = .returned (vs (quo l)) ∧ Up w w' := by
  obtain ⟨a, c, rfl, _, hS⟩ := hS
  have HT := Hid.of hS
  clear hS
  go_enter Tryz.func22, Tryz.ntmps22
  go_wp2
  go_loopw [3, 4] (fun v3 v4 wr => ∃ i : Nat, v4 = .int .i64 (i : Int) ∧ i ≤ l.length ∧ Hid (Own wr w.heap.size v3 (34 :: qs (l.take i)) ∧ Up w wr)) (fun _ v4 _ => l.length - (intOf v4).toNat)
  case atStart => exact ⟨0, rfl, by omega, own_lit w [34], (Up.refl w).alloc _⟩
  case round =>
    obtain ⟨i, rfl, hi, hI⟩ := hrel
    by_cases hlt : i < l.length
    · rcases HT.out with e | ⟨b, off, rfl, hb, hc⟩
      · subst e; simp at hlt
      · have hcx := hI.out.2.cell (hc i hlt)
        have hlt' : (i : Int) < (l.length : Int) := by omega
        have HX := Hid.of (qs_snoc (l.take i) l[i])
        rw [← take_succ hlt] at HX
        have HL := Hid.of (show (qs (l.take i)).length + 5 ≤ 140737488355328 by have := (qs_length (l.take i)).2; simp at this; omega)
        clear hc
        generalize l[i] = x at *
        have hx : x.toNat < 256 := x.toNat_lt
        have q1 : IntKind.u8.wrap ((x.toNat : Int) / 16) = ((x.toNat / 16 : Nat) : Int) := by
          simp only [IntKind.wrap, IntKind.signed, IntKind.bits]; simp; omega
        have q2 : ((x.toNat : Int)).tmod 16 = ((x.toNat % 16 : Nat) : Int) := by
          rw [Int.tmod_eq_emod_of_nonneg (by omega)]; omega
        have b1 : x.toNat / 16 < 16 := by omega
        have b2 : x.toNat % 16 < 16 := by omega
        have g1 := DS_get _ b1
        have g2 := DS_get _ b2
        unfold DS at g1 g2
        have HQ := Hid.of (show its x = false → qb x = [92, 120, dg (x.toNat / 16), dg (x.toNat % 16)] from fun h => by unfold qb; rw [h]; rfl)
        have HQ1 := Hid.of (show its x = true → qb x = [x] from fun h => by unfold qb; rw [h]; rfl)
        have HIT := Hid.of (show its x = (decide (32 ≤ x.toNat) && decide (x.toNat ≤ 126) && decide (x.toNat ≠ 34) && decide (x.toNat ≠ 92)) from rfl)
        generalize hu : x.toNat / 16 = u at *
        generalize hv : x.toNat % 16 = t at *
        have HUV := Hid.of (And.intro hu hv)
        clear hu hv
        by_cases c0 : x.toNat < 32
        · have d0 : decide ((x.toNat : Int) < 32) = true := by simp; omega
          have HF := Hid.of (HQ.out (by rw [HIT.out]; simp; omega))
          clear c0
          go_wp2_with (with_reducible show wpList _ _ _ ({ dst := _, op := Op.call { callee := Callee.builtin Builtin.append, args := _, argTypes := _ }, type := _, pos := _, after := _, guard := _ } :: _) _ _; refine Shut.out ?_)
          show wpList _ _ _ _ _ _
          refine wpList_app1 rfl _ _ rfl w.heap.size _ (34 :: qs (l.take i)) [92] rfl (by exact hI.out.1) 1 rfl (by have := HL.out; simp at this ⊢; omega) hI.out.2.size ?_
          intro v2 w2 h2 k2
          have H2 := Hid.of (And.intro h2 (hI.out.2.step (Nat.le_refl _) k2))
          clear h2 k2
          simp only [Act.put, List.setIfInBounds_toArray, List.set_cons_zero, List.set_cons_succ]
          go_wp2_with (with_reducible show wpList _ _ _ ({ dst := _, op := Op.call { callee := Callee.builtin Builtin.append, args := _, argTypes := _ }, type := _, pos := _, after := _, guard := _ } :: _) _ _; refine Shut.out ?_)
          show wpList _ _ _ _ _ _
          refine wpList_app1 rfl _ _ rfl w.heap.size _ (34 :: qs (l.take i) ++ [92]) [120] rfl (by exact H2.out.1) 1 rfl (by have := HL.out; simp at this ⊢; omega) H2.out.2.size ?_
          intro v3 w3 h3 k3
          have H3 := Hid.of (And.intro h3 (H2.out.2.step (Nat.le_refl _) k3))
          clear h3 k3
          simp only [Act.put, List.setIfInBounds_toArray, List.set_cons_zero, List.set_cons_succ]
          go_wp2_with (with_reducible show wpList _ _ _ ({ dst := _, op := Op.call { callee := Callee.builtin Builtin.append, args := _, argTypes := _ }, type := _, pos := _, after := _, guard := _ } :: _) _ _; refine Shut.out ?_)
          show wpList _ _ _ _ _ _
          refine wpList_app1 rfl _ _ rfl w.heap.size _ (34 :: qs (l.take i) ++ [92] ++ [120]) [dg u] rfl (by exact H3.out.1) 1 rfl (by have := HL.out; simp at this ⊢; omega) H3.out.2.size ?_
          intro v4 w4 h4 k4
          have H4 := Hid.of (And.intro h4 (H3.out.2.step (Nat.le_refl _) k4))
          clear h4 k4
          simp only [Act.put, List.setIfInBounds_toArray, List.set_cons_zero, List.set_cons_succ]
          go_wp2_with (with_reducible show wpList _ _ _ ({ dst := _, op := Op.call { callee := Callee.builtin Builtin.append, args := _, argTypes := _ }, type := _, pos := _, after := _, guard := _ } :: _) _ _; refine Shut.out ?_)
          show wpList _ _ _ _ _ _
          refine wpList_app1 rfl _ _ rfl w.heap.size _ (34 :: qs (l.take i) ++ [92] ++ [120] ++ [dg u]) [dg t] rfl (by exact H4.out.1) 1 rfl (by have := HL.out; simp at this ⊢; omega) H4.out.2.size ?_
          intro v5 w5 h5 k5
          have H5 := Hid.of (And.intro h5 (H4.out.2.step (Nat.le_refl _) k5))
          clear h5 k5
          simp only [Act.put, List.setIfInBounds_toArray, List.set_cons_zero, List.set_cons_succ]
          go_wp2
          go_roundw
          case rel => exact ⟨i + 1, by go_num, by omega, by rw [HX.out, HF.out]; have := H5.out.1; simpa using this, H5.out.2⟩
          case measure => simp [intOf]; omega
        have d0 : decide ((x.toNat : Int) < 32) = false := by simp; omega
        by_cases c1 : 126 < x.toNat
        · have d1 : decide ((126 : Int) < (x.toNat : Int)) = true := by simp; omega
          have HF := Hid.of (HQ.out (by rw [HIT.out]; simp; omega))
          clear c1
          go_wp2_with (with_reducible show wpList _ _ _ ({ dst := _, op := Op.call { callee := Callee.builtin Builtin.append, args := _, argTypes := _ }, type := _, pos := _, after := _, guard := _ } :: _) _ _; refine Shut.out ?_)
          show wpList _ _ _ _ _ _
          refine wpList_app1 rfl _ _ rfl w.heap.size _ (34 :: qs (l.take i)) [92] rfl (by exact hI.out.1) 1 rfl (by have := HL.out; simp at this ⊢; omega) hI.out.2.size ?_
          intro v2 w2 h2 k2
          have H2 := Hid.of (And.intro h2 (hI.out.2.step (Nat.le_refl _) k2))
          clear h2 k2
          simp only [Act.put, List.setIfInBounds_toArray, List.set_cons_zero, List.set_cons_succ]
          go_wp2_with (with_reducible show wpList _ _ _ ({ dst := _, op := Op.call { callee := Callee.builtin Builtin.append, args := _, argTypes := _ }, type := _, pos := _, after := _, guard := _ } :: _) _ _; refine Shut.out ?_)
          show wpList _ _ _ _ _ _
          refine wpList_app1 rfl _ _ rfl w.heap.size _ (34 :: qs (l.take i) ++ [92]) [120] rfl (by exact H2.out.1) 1 rfl (by have := HL.out; simp at this ⊢; omega) H2.out.2.size ?_
          intro v3 w3 h3 k3
          have H3 := Hid.of (And.intro h3 (H2.out.2.step (Nat.le_refl _) k3))
          clear h3 k3
          simp only [Act.put, List.setIfInBounds_toArray, List.set_cons_zero, List.set_cons_succ]
          go_wp2_with (with_reducible show wpList _ _ _ ({ dst := _, op := Op.call { callee := Callee.builtin Builtin.append, args := _, argTypes := _ }, type := _, pos := _, after := _, guard := _ } :: _) _ _; refine Shut.out ?_)
          show wpList _ _ _ _ _ _
          refine wpList_app1 rfl _ _ rfl w.heap.size _ (34 :: qs (l.take i) ++ [92] ++ [120]) [dg u] rfl (by exact H3.out.1) 1 rfl (by have := HL.out; simp at this ⊢; omega) H3.out.2.size ?_
          intro v4 w4 h4 k4
          have H4 := Hid.of (And.intro h4 (H3.out.2.step (Nat.le_refl _) k4))
          clear h4 k4
          simp only [Act.put, List.setIfInBounds_toArray, List.set_cons_zero, List.set_cons_succ]
          go_wp2_with (with_reducible show wpList _ _ _ ({ dst := _, op := Op.call { callee := Callee.builtin Builtin.append, args := _, argTypes := _ }, type := _, pos := _, after := _, guard := _ } :: _) _ _; refine Shut.out ?_)
          show wpList _ _ _ _ _ _
          refine wpList_app1 rfl _ _ rfl w.heap.size _ (34 :: qs (l.take i) ++ [92] ++ [120] ++ [dg u]) [dg t] rfl (by exact H4.out.1) 1 rfl (by have := HL.out; simp at this ⊢; omega) H4.out.2.size ?_
          intro v5 w5 h5 k5
          have H5 := Hid.of (And.intro h5 (H4.out.2.step (Nat.le_refl _) k5))
          clear h5 k5
          simp only [Act.put, List.setIfInBounds_toArray, List.set_cons_zero, List.set_cons_succ]
          go_wp2
          go_roundw
          case rel => exact ⟨i + 1, by go_num, by omega, by rw [HX.out, HF.out]; have := H5.out.1; simpa using this, H5.out.2⟩
          case measure => simp [intOf]; omega
        have d1 : decide ((126 : Int) < (x.toNat : Int)) = false := by simp; omega
        by_cases c2 : x.toNat = 34
        · have d2 : ((x.toNat : Int) == 34) = true := by simp; omega
          have HF := Hid.of (HQ.out (by rw [HIT.out]; simp; omega))
          clear c2
          go_wp2_with (with_reducible show wpList _ _ _ ({ dst := _, op := Op.call { callee := Callee.builtin Builtin.append, args := _, argTypes := _ }, type := _, pos := _, after := _, guard := _ } :: _) _ _; refine Shut.out ?_)
          show wpList _ _ _ _ _ _
          refine wpList_app1 rfl _ _ rfl w.heap.size _ (34 :: qs (l.take i)) [92] rfl (by exact hI.out.1) 1 rfl (by have := HL.out; simp at this ⊢; omega) hI.out.2.size ?_
          intro v2 w2 h2 k2
          have H2 := Hid.of (And.intro h2 (hI.out.2.step (Nat.le_refl _) k2))
          clear h2 k2
          simp only [Act.put, List.setIfInBounds_toArray, List.set_cons_zero, List.set_cons_succ]
          go_wp2_with (with_reducible show wpList _ _ _ ({ dst := _, op := Op.call { callee := Callee.builtin Builtin.append, args := _, argTypes := _ }, type := _, pos := _, after := _, guard := _ } :: _) _ _; refine Shut.out ?_)
          show wpList _ _ _ _ _ _
          refine wpList_app1 rfl _ _ rfl w.heap.size _ (34 :: qs (l.take i) ++ [92]) [120] rfl (by exact H2.out.1) 1 rfl (by have := HL.out; simp at this ⊢; omega) H2.out.2.size ?_
          intro v3 w3 h3 k3
          have H3 := Hid.of (And.intro h3 (H2.out.2.step (Nat.le_refl _) k3))
          clear h3 k3
          simp only [Act.put, List.setIfInBounds_toArray, List.set_cons_zero, List.set_cons_succ]
          go_wp2_with (with_reducible show wpList _ _ _ ({ dst := _, op := Op.call { callee := Callee.builtin Builtin.append, args := _, argTypes := _ }, type := _, pos := _, after := _, guard := _ } :: _) _ _; refine Shut.out ?_)
          show wpList _ _ _ _ _ _
          refine wpList_app1 rfl _ _ rfl w.heap.size _ (34 :: qs (l.take i) ++ [92] ++ [120]) [dg u] rfl (by exact H3.out.1) 1 rfl (by have := HL.out; simp at this ⊢; omega) H3.out.2.size ?_
          intro v4 w4 h4 k4
          have H4 := Hid.of (And.intro h4 (H3.out.2.step (Nat.le_refl _) k4))
          clear h4 k4
          simp only [Act.put, List.setIfInBounds_toArray, List.set_cons_zero, List.set_cons_succ]
          go_wp2_with (with_reducible show wpList _ _ _ ({ dst := _, op := Op.call { callee := Callee.builtin Builtin.append, args := _, argTypes := _ }, type := _, pos := _, after := _, guard := _ } :: _) _ _; refine Shut.out ?_)
          show wpList _ _ _ _ _ _
          refine wpList_app1 rfl _ _ rfl w.heap.size _ (34 :: qs (l.take i) ++ [92] ++ [120] ++ [dg u]) [dg t] rfl (by exact H4.out.1) 1 rfl (by have := HL.out; simp at this ⊢; omega) H4.out.2.size ?_
          intro v5 w5 h5 k5
          have H5 := Hid.of (And.intro h5 (H4.out.2.step (Nat.le_refl _) k5))
          clear h5 k5
          simp only [Act.put, List.setIfInBounds_toArray, List.set_cons_zero, List.set_cons_succ]
          go_wp2
          go_roundw
          case rel => exact ⟨i + 1, by go_num, by omega, by rw [HX.out, HF.out]; have := H5.out.1; simpa using this, H5.out.2⟩
          case measure => simp [intOf]; omega
        have d2 : ((x.toNat : Int) == 34) = false := by simp; omega
        by_cases c3 : x.toNat = 92
        · have d3 : ((x.toNat : Int) == 92) = true := by simp; omega
          have HF := Hid.of (HQ.out (by rw [HIT.out]; simp; omega))
          clear c3
          go_wp2_with (with_reducible show wpList _ _ _ ({ dst := _, op := Op.call { callee := Callee.builtin Builtin.append, args := _, argTypes := _ }, type := _, pos := _, after := _, guard := _ } :: _) _ _; refine Shut.out ?_)
          show wpList _ _ _ _ _ _
          refine wpList_app1 rfl _ _ rfl w.heap.size _ (34 :: qs (l.take i)) [92] rfl (by exact hI.out.1) 1 rfl (by have := HL.out; simp at this ⊢; omega) hI.out.2.size ?_
          intro v2 w2 h2 k2
          have H2 := Hid.of (And.intro h2 (hI.out.2.step (Nat.le_refl _) k2))
          clear h2 k2
          simp only [Act.put, List.setIfInBounds_toArray, List.set_cons_zero, List.set_cons_succ]
          go_wp2_with (with_reducible show wpList _ _ _ ({ dst := _, op := Op.call { callee := Callee.builtin Builtin.append, args := _, argTypes := _ }, type := _, pos := _, after := _, guard := _ } :: _) _ _; refine Shut.out ?_)
          show wpList _ _ _ _ _ _
          refine wpList_app1 rfl _ _ rfl w.heap.size _ (34 :: qs (l.take i) ++ [92]) [120] rfl (by exact H2.out.1) 1 rfl (by have := HL.out; simp at this ⊢; omega) H2.out.2.size ?_
          intro v3 w3 h3 k3
          have H3 := Hid.of (And.intro h3 (H2.out.2.step (Nat.le_refl _) k3))
          clear h3 k3
          simp only [Act.put, List.setIfInBounds_toArray, List.set_cons_zero, List.set_cons_succ]
          go_wp2_with (with_reducible show wpList _ _ _ ({ dst := _, op := Op.call { callee := Callee.builtin Builtin.append, args := _, argTypes := _ }, type := _, pos := _, after := _, guard := _ } :: _) _ _; refine Shut.out ?_)
          show wpList _ _ _ _ _ _
          refine wpList_app1 rfl _ _ rfl w.heap.size _ (34 :: qs (l.take i) ++ [92] ++ [120]) [dg u] rfl (by exact H3.out.1) 1 rfl (by have := HL.out; simp at this ⊢; omega) H3.out.2.size ?_
          intro v4 w4 h4 k4
          have H4 := Hid.of (And.intro h4 (H3.out.2.step (Nat.le_refl _) k4))
          clear h4 k4
          simp only [Act.put, List.setIfInBounds_toArray, List.set_cons_zero, List.set_cons_succ]
          go_wp2_with (with_reducible show wpList _ _ _ ({ dst := _, op := Op.call { callee := Callee.builtin Builtin.append, args := _, argTypes := _ }, type := _, pos := _, after := _, guard := _ } :: _) _ _; refine Shut.out ?_)
          show wpList _ _ _ _ _ _
          refine wpList_app1 rfl _ _ rfl w.heap.size _ (34 :: qs (l.take i) ++ [92] ++ [120] ++ [dg u]) [dg t] rfl (by exact H4.out.1) 1 rfl (by have := HL.out; simp at this ⊢; omega) H4.out.2.size ?_
          intro v5 w5 h5 k5
          have H5 := Hid.of (And.intro h5 (H4.out.2.step (Nat.le_refl _) k5))
          clear h5 k5
          simp only [Act.put, List.setIfInBounds_toArray, List.set_cons_zero, List.set_cons_succ]
          go_wp2
          go_roundw
          case rel => exact ⟨i + 1, by go_num, by omega, by rw [HX.out, HF.out]; have := H5.out.1; simpa using this, H5.out.2⟩
          case measure => simp [intOf]; omega
        have d3 : ((x.toNat : Int) == 92) = false := by simp; omega
        have HF := Hid.of (HQ1.out (by rw [HIT.out]; simp; omega))
        go_wp2_with (with_reducible show wpList _ _ _ ({ dst := _, op := Op.call { callee := Callee.builtin Builtin.append, args := _, argTypes := _ }, type := _, pos := _, after := _, guard := _ } :: _) _ _; refine Shut.out ?_)
        show wpList _ _ _ _ _ _
        refine wpList_app1 rfl _ _ rfl w.heap.size _ (34 :: qs (l.take i)) [x] rfl (by exact hI.out.1) 1 rfl (by have := HL.out; simp at this ⊢; omega) hI.out.2.size ?_
        intro v2 w2 h2 k2
        have H2 := Hid.of (And.intro h2 (hI.out.2.step (Nat.le_refl _) k2))
        clear h2 k2
        simp only [Act.put, List.setIfInBounds_toArray, List.set_cons_zero, List.set_cons_succ]
        go_wp2
        go_roundw
        case rel => exact ⟨i + 1, by go_num, by omega, by rw [HX.out, HF.out]; have := H2.out.1; simpa using this, H2.out.2⟩
        case measure => simp [intOf]; omega
    · obtain rfl : i = l.length := by omega
      have HL := Hid.of (show (qs l).length + 5 ≤ 140737488355328 by have := (qs_length l).2; omega)
      go_wp2_with (with_reducible show wpList _ _ _ ({ dst := _, op := Op.call { callee := Callee.builtin Builtin.append, args := _, argTypes := _ }, type := _, pos := _, after := _, guard := _ } :: _) _ _; refine Shut.out ?_)
      show wpList _ _ _ _ _ _
      refine wpList_app1 rfl _ _ rfl w.heap.size _ (34 :: qs (l.take l.length)) [34] rfl (by exact hI.out.1) 1 rfl (by have := HL.out; simp only [List.take_length, List.length_cons, List.length_nil] at this ⊢; omega) hI.out.2.size ?_
      intro v2 w2 h2 k2
      have H2 := Hid.of (And.intro h2 (hI.out.2.step (Nat.le_refl _) k2))
      clear h2 k2
      simp only [Act.put, List.setIfInBounds_toArray, List.set_cons_zero, List.set_cons_succ]
      have hcv := conv_sl (Own.sl H2.out.1)
      rw [List.take_length] at hcv
      go_wp2
      go_ret
      exact ⟨rfl, H2.out.2⟩
end Go.Proofs.YtbdmpdjhgjidlaaGreatDoor
