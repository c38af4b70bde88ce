import Derived.Test.YtbdmpdjhgjidlaaGreatDoorQu
namespace Go.Proofs.YtbdmpdjhgjidlaaGreatDoor
open Go.RowKit TextNum

theorem qs_snoc (a : List UInt8) (x : UInt8) : qs (a ++ [x]) = qs a ++ qb x := by rw [qs_append]; simp [qs]
theorem qb_its {x : UInt8} (h : its x = true) : qb x = [x] := by unfold qb; rw [if_pos h]
theorem qb_not {x : UInt8} (h : its x = false) : qb x = [92, 120] ++ [dg (x.toNat / 16), dg (x.toNat % 16)] := by unfold qb; rw [if_neg (by rw [h]; simp)]; rfl

set_option maxRecDepth 100000 in
set_option maxHeartbeats 400000 in
theorem Quote_walk (v : Value) (l : List UInt8) (w : World) (hT : TabD w) (hS : Sl w v l) (hl : l.length ≤ 1099511627776) :
    Calls Tryz.prog 23 #[v] w fun e w' => e = .returned (vs (quo l)) ∧ Up w w' := by
  obtain ⟨a, c, rfl, _, hS⟩ := hS
  have HT := Hid.of (And.intro hT hS)
  clear hT hS
  go_enter Tryz.func23, Tryz.ntmps23
  go_wp2_with (with_reducible show wpList _ _ _ ({ dst := _, op := Op.makeSlice 23 _ _, type := _, pos := _, after := _, guard := _ } :: _) _ _; refine Shut.out ?_)
  show wpList _ _ _ _ _ _
  refine wpList_mk rfl _ _ rfl _ _ _ (l.length + 2) rfl rfl (by omega) (by omega) ?_
  intro w1 h1 u1
  simp only [Act.put, List.setIfInBounds_toArray, List.set_cons_zero, List.set_cons_succ]
  have H1 := Hid.of (And.intro h1 u1)
  clear h1 u1
  go_wp2_with (with_reducible show wpList _ _ _ ({ dst := _, op := Op.call { callee := Callee.builtin Builtin.append, args := _, argTypes := _ }, type := _, pos := _, after := _, guard := _ } :: _) _ _; refine Shut.out ?_)
  show wpList _ _ _ _ _ _
  refine wpList_app1 rfl _ _ rfl w.heap.size _ [] [34] rfl (by exact H1.out.1) 1 rfl (by decide) H1.out.2.size ?_
  intro v2 w2 h2 b2
  simp only [Act.put, List.setIfInBounds_toArray, List.set_cons_zero, List.set_cons_succ]
  have H2 := Hid.of (And.intro h2 (H1.out.2.step (Nat.le_refl _) b2))
  clear h2 b2 H1
  go_wp2
  go_loopw [3, 15] (fun v3 v15 wr => ∃ i : Nat, v15 = .int .i64 (i : Int) ∧ i ≤ l.length ∧ Hid (Own wr w.heap.size v3 (34 :: qs (l.take i)) ∧ Up w wr)) (fun _ v15 _ => l.length - (intOf v15).toNat)
  case atStart => exact ⟨0, rfl, by omega, H2.out.1, H2.out.2⟩
  case round =>
    obtain ⟨i, rfl, hi, hI⟩ := hrel
    by_cases hlt : i < l.length
    · rcases HT.out.2 with e | ⟨b, off, rfl, hb, hc⟩
      · subst e; simp at hlt
      · have hcx := hI.out.2.cell (hc i hlt)
        have hlt' : (i : Int) < (l.length : Int) := by omega
        have HX := Hid.of (qs_snoc (l.take i) l[i])
        rw [← take_succ hlt] at HX
        have hlen : (34 :: qs (l.take i)).length + 4 ≤ 140737488355328 := by have := (qs_length (l.take i)).2; simp only [List.length_take, List.length_cons] at this ⊢; omega
        have HL := Hid.of hlen
        clear hlen hc
        generalize l[i] = x at *
        go_wp2_with fail
        refine (itself_walk x wr).mono ?_
        rintro e w' ⟨rfl, hw⟩
        obtain rfl := hw.symm
        dsimp only
        cases hx : its x with
        | true =>
          have HQ := Hid.of (qb_its hx)
          clear hx
          go_wp2_with (with_reducible show wpList _ _ _ ({ dst := _, op := Op.call { callee := Callee.builtin Builtin.append, args := _, argTypes := _ }, type := _, pos := _, after := _, guard := _ } :: _) _ _; refine Shut.out ?_)
          show wpList _ _ _ _ _ _
          refine wpList_app1 rfl _ _ rfl w.heap.size _ (34 :: qs (l.take i)) [x] rfl (by exact hI.out.1) 1 rfl (by have := HL.out; simp only [List.length_cons, List.length_nil] at this ⊢; omega) hI.out.2.size ?_
          intro v3 w3 h3 b3
          simp only [Act.put, List.setIfInBounds_toArray, List.set_cons_zero, List.set_cons_succ]
          have H3 := Hid.of (And.intro h3 (hI.out.2.step (Nat.le_refl _) b3))
          clear h3 b3
          go_wp2
          go_roundw
          case rel => exact ⟨i + 1, by go_num, by omega, by rw [HX.out, HQ.out]; exact H3.out.1, H3.out.2⟩
          case measure => simp [intOf]; omega
        | false =>
          have HQ := Hid.of (qb_not hx)
          clear hx
          go_wp2_with (with_reducible show wpList _ _ _ ({ dst := _, op := Op.call { callee := Callee.builtin Builtin.append, args := _, argTypes := _ }, type := _, pos := _, after := _, guard := _ } :: _) _ _; refine Shut.out ?_)
          show wpList _ _ _ _ _ _
          refine wpList_apps rfl _ _ rfl w.heap.size _ (34 :: qs (l.take i)) [92, 120] rfl (by exact hI.out.1) rfl (by have := HL.out; simp only [List.length_cons, List.length_nil] at this ⊢; omega) hI.out.2.size ?_
          intro v3 w3 h3 b3
          simp only [Act.put, List.setIfInBounds_toArray, List.set_cons_zero, List.set_cons_succ]
          have H3 := Hid.of (And.intro h3 (hI.out.2.step (Nat.le_refl _) b3))
          clear h3 b3
          go_wp2_with fail
          refine (appendDigits_walk w.heap.size _ _ x w3 (HT.out.1.up H3.out.2) H3.out.1 (by have := HL.out; simp only [List.length_cons, List.length_append, List.length_nil] at this ⊢; omega) H3.out.2.size).mono ?_
          rintro e w4 ⟨v', rfl, h4, b4⟩
          dsimp only
          have H4 := Hid.of (And.intro h4 (H3.out.2.step (Nat.le_refl _) b4))
          clear h4 b4
          go_wp2
          go_roundw
          case rel => exact ⟨i + 1, by go_num, by omega, by rw [HX.out, HQ.out]; simpa using H4.out.1, H4.out.2⟩
          case measure => simp [intOf]; omega
    · obtain rfl : i = l.length := by omega
      have hlen : (34 :: qs (l.take l.length)).length + 4 ≤ 140737488355328 := by have := (qs_length (l.take l.length)).2; simp only [List.length_take, List.length_cons] at this ⊢; omega
      have HL := Hid.of hlen
      clear hlen
      go_wp2_with (with_reducible show wpList _ _ _ ({ dst := _, op := Op.call { callee := Callee.builtin Builtin.append, args := _, argTypes := _ }, type := _, pos := _, after := _, guard := _ } :: _) _ _; refine Shut.out ?_)
      show wpList _ _ _ _ _ _
      refine wpList_app1 rfl _ _ rfl w.heap.size _ (34 :: qs (l.take l.length)) [34] rfl (by exact hI.out.1) 1 rfl (by have := HL.out; simp only [List.length_cons, List.length_nil] at this ⊢; omega) hI.out.2.size ?_
      intro v3 w3 h3 b3
      simp only [Act.put, List.setIfInBounds_toArray, List.set_cons_zero, List.set_cons_succ]
      have H3 := Hid.of (hI.out.2.step (Nat.le_refl _) b3)
      have hcv := conv_sl (Own.sl h3)
      rw [List.take_length] at hcv
      rw [show 34 :: qs l ++ [34] = quo l from rfl] at hcv
      clear h3 b3
      go_wp2
      go_ret
      exact ⟨rfl, H3.out⟩
end Go.Proofs.YtbdmpdjhgjidlaaGreatDoor
