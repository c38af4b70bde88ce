import Derived.Test.YtbdmpdjhgjidlaaGreatDoorPc
namespace Go.Proofs.YtbdmpdjhgjidlaaGreatDoor
open Go.RowKit TextNum

set_option maxRecDepth 100000 in
set_option maxHeartbeats 1000000 in
theorem RDecodeHex_walk (s : ByteArray) (w : World) :
    Calls Tryz.prog 32 #[.string s] w fun e w' => ∃ v, e = .returned (.tuple #[v, .int .i64 (hexR s.data.toList).2]) ∧ Own w' w.heap.size v (hexR s.data.toList).1 ∧ Up w w' := by
  have HS := Hid.of (Go.Lib.size_eq s)
  go_enter Tryz.func32, Tryz.ntmps32
  by_cases h1 : 1048576 < s.size
  · have d1 : (1048576 : Int) < (s.size : Int) := by omega
    go_wp2
    go_ret2
    rw [hexR_long (by rw [← HS.out]; exact h1)]
    exact ⟨_, rfl, own_nil _ _, Up.refl _⟩
  · have d1 : ¬ (1048576 : Int) < (s.size : Int) := by omega
    have hle : s.size ≤ 1048576 := by omega
    have HN := Hid.of (show ¬ 1048576 < s.data.toList.length by rw [← HS.out]; exact h1)
    clear h1
    by_cases h2 : s.size % 2 = 1
    · have d2 : ((s.size : Int) % 2) = 1 := by omega
      have HF := Hid.of (hexR_none HN.out (hexD_odd s.data.toList (by rw [← HS.out]; exact h2)))
      clear h2
      go_wp2
      go_ret2
      rw [HF.out]
      exact ⟨_, rfl, own_nil _ _, Up.refl _⟩
    · have d2 : ((s.size : Int) % 2) = 0 := by omega
      go_wp2
      go_loopw [4, 5] (fun v4 v5 wr => ∃ (i : Nat) (out : List UInt8), v5 = .int .i64 (i : Int) ∧ i ≤ s.size ∧ i % 2 = 0 ∧ Hid (Own wr w.heap.size v4 out ∧ Up w wr ∧ out.length ≤ i ∧ hexD s.data.toList = (hexD (s.data.toList.drop i)).map (out ++ ·))) (fun _ v5 _ => s.size - (intOf v5).toNat)
      case atStart => exact ⟨0, [], rfl, by omega, rfl, own_nil _ _, Up.refl _, Nat.zero_le _, by simp⟩
      case round =>
        obtain ⟨i, out, rfl, hi, hi2, hI⟩ := hrel
        by_cases hlt : i + 1 < s.size
        · have hlt' : (i : Int) + 1 < (s.size : Int) := by omega
          have hl1 : i < s.size := by omega
          have hd := drop_two (l := s.data.toList) (i := i) (by rw [← HS.out]; exact hlt)
          rw [← sget' s i hl1, ← sget' s (i + 1) hlt] at hd
          have HD := Hid.of hd
          clear hd
          go_wp2_with fail
          refine (place_walk ⟨#[48, 49, 50, 51, 52, 53, 54, 55, 56, 57, 97, 98, 99, 100, 101, 102]⟩ s[i] (by decide) wr).mono ?_
          rintro e w2 ⟨rfl, hw⟩
          obtain rfl := hw.symm
          rw [show (⟨#[48, 49, 50, 51, 52, 53, 54, 55, 56, 57, 97, 98, 99, 100, 101, 102]⟩ : ByteArray).data.toList = DT from rfl]
          dsimp only
          go_wp2_with fail
          refine (place_walk ⟨#[48, 49, 50, 51, 52, 53, 54, 55, 56, 57, 97, 98, 99, 100, 101, 102]⟩ s[i + 1] (by decide) wr).mono ?_
          rintro e w2 ⟨rfl, hw⟩
          obtain rfl := hw.symm
          rw [show (⟨#[48, 49, 50, 51, 52, 53, 54, 55, 56, 57, 97, 98, 99, 100, 101, 102]⟩ : ByteArray).data.toList = DT from rfl]
          dsimp only
          cases hp : pl DT s[i] with
          | none =>
            have HF := Hid.of (hexR_none HN.out (by rw [hI.out.2.2.2, HD.out]; simp only [hexD]; rw [show hexB s[i] s[i + 1] = none by unfold hexB; rw [hp]]; rfl))
            rw [plI_no hp]
            generalize plI DT s[i + 1] = k2
            clear hp
            go_wp2
            go_ret2
            rw [HF.out]
            exact ⟨_, rfl, own_nil _ _, hI.out.2.1⟩
          | some x =>
            have hx := (pl_dg hp).2
            rw [plI_hv hp]
            have e1 : decide ((x : Int) < 0) = false := by simp
            cases hp2 : pl DT s[i + 1] with
            | none =>
              have HF := Hid.of (hexR_none HN.out (by rw [hI.out.2.2.2, HD.out]; simp only [hexD]; rw [show hexB s[i] s[i + 1] = none by unfold hexB; rw [hp, hp2]]; rfl))
              rw [plI_no hp2]
              clear hp hp2
              go_wp2
              go_ret2
              rw [HF.out]
              exact ⟨_, rfl, own_nil _ _, hI.out.2.1⟩
            | some y =>
              have hy := (pl_dg hp2).2
              rw [plI_hv hp2]
              have e2 : decide ((y : Int) < 0) = false := by simp
              obtain ⟨z, hz⟩ : ∃ z : UInt8, z = UInt8.ofNat (16 * x + y) := ⟨_, rfl⟩
              have hzn : 16 * (x : Int) + (y : Int) = (z.toNat : Int) := by rw [hz, ofNat_toNat (by omega)]; omega
              have hzl : z.toNat < 256 := z.toNat_lt
              have HF := Hid.of (show hexD s.data.toList = (hexD (s.data.toList.drop (i + 2))).map (out ++ [z] ++ ·) by
                rw [hI.out.2.2.2, HD.out]; simp only [hexD]; rw [show hexB s[i] s[i + 1] = some z by unfold hexB; rw [hp, hp2, hz]]
                cases hexD (s.data.toList.drop (i + 2)) <;> simp)
              clear hp hp2 hz
              go_wp2_with (with_reducible show wpList _ _ _ ({ dst := _, op := Op.call { callee := Callee.builtin Builtin.append, args := _, argTypes := _ }, type := _, pos := _, after := _, guard := _ } :: _) _ _; refine Shut.out ?_)
              show wpList _ _ _ _ _ _
              refine wpList_app1 rfl _ _ rfl w.heap.size _ out [z] rfl (by exact hI.out.1) 1 rfl (by have := hI.out.2.2.1; simp; omega) hI.out.2.1.size ?_
              intro v' w3 h3 b3
              have H3 := Hid.of (And.intro h3 (hI.out.2.1.step (Nat.le_refl _) b3))
              clear h3 b3
              simp only [Act.put, List.setIfInBounds_toArray, List.set_cons_zero, List.set_cons_succ]
              go_wp2
              go_roundw
              case rel => exact ⟨i + 2, out ++ [z], by go_num, by omega, by omega, H3.out.1, H3.out.2, by have := hI.out.2.2.1; simp; omega, HF.out⟩
              case measure => simp [intOf]; omega
        · have hie : i = s.size := by omega
          have hlt' : ¬ (i : Int) + 1 < (s.size : Int) := by omega
          have HF := Hid.of (hexR_some (x := out) HN.out (by rw [hI.out.2.2.2, hie, HS.out, List.drop_length]; simp [hexD]))
          go_wp2
          go_ret2
          rw [HF.out]
          exact ⟨_, rfl, hI.out.1, hI.out.2.1⟩
end Go.Proofs.YtbdmpdjhgjidlaaGreatDoor
