import Derived.Test.YtbdmpdjhgjidlaaGreatDoorHe
import Derived.Lib.Strings
namespace Go.Proofs.YtbdmpdjhgjidlaaGreatDoor
open Go.RowKit TextNum

def hexR (l : List UInt8) : List UInt8 × Int := if 1048576 < l.length then ([], 2) else match hexD l with
  | some x => (x, 0)
  | none => ([], 61)
theorem hexR_long {l : List UInt8} (h : 1048576 < l.length) : hexR l = ([], 2) := if_pos h
theorem hexR_some {l x : List UInt8} (h : ¬ 1048576 < l.length) (hx : hexD l = some x) : hexR l = (x, 0) := by unfold hexR; rw [if_neg h, hx]
theorem hexR_none {l : List UInt8} (h : ¬ 1048576 < l.length) (hx : hexD l = none) : hexR l = ([], 61) := by unfold hexR; rw [if_neg h, hx]
theorem hexB_ok {a b : UInt8} (h : ((pl DT a).isSome && (pl DT b).isSome) = true) : hexB a b = some (UInt8.ofNat (16 * hv a + hv b)) := by
  unfold hexB hv
  cases ha : pl DT a <;> cases hb : pl DT b <;> simp_all
theorem hexB_no {a b : UInt8} (h : ((pl DT a).isSome && (pl DT b).isSome) = false) : hexB a b = none := by
  unfold hexB
  cases ha : pl DT a <;> cases hb : pl DT b <;> simp_all
theorem drop_two {l : List UInt8} {i : Nat} (h : i + 1 < l.length) : l.drop i = l[i] :: l[i + 1] :: l.drop (i + 2) := by
  rw [List.drop_eq_getElem_cons (by omega), List.drop_eq_getElem_cons h]
theorem hexD_odd : ∀ l : List UInt8, l.length % 2 = 1 → hexD l = none
  | [], h => by simp at h
  | [_], _ => rfl
  | a :: b :: r, h => by
    simp only [hexD]
    rw [hexD_odd r (by simp at h; omega)]
    split <;> rfl
theorem bd_cases (a b : UInt8) : (∃ x : UInt8, bdV a b = .tuple #[.int .u8 (x.toNat : Int), .bool true] ∧ hexB a b = some x) ∨ (∃ n : Nat, bdV a b = .tuple #[.int .u8 (n : Int), .bool false] ∧ hexB a b = none) := by
  have h1 := hv_lt a
  have h2 := hv_lt b
  cases h : ((pl DT a).isSome && (pl DT b).isSome) with
  | true =>
    refine .inl ⟨UInt8.ofNat (16 * hv a + hv b), ?_, hexB_ok h⟩
    unfold bdV
    rw [h, ofNat_toNat (by omega)]
  | false =>
    refine .inr ⟨16 * hv a + hv b, ?_, hexB_no h⟩
    unfold bdV
    rw [h]
theorem sget (s : ByteArray) (i : Nat) (h : i < s.size) : s[i] = s.data.toList[i]'(by rw [← Go.Lib.size_eq]; exact h) := rfl
theorem own_nil (w : World) (B : Nat) : Own w B (.slice none 0 0) [] := World.ownsRow_nil w B 5 1

set_option maxRecDepth 100000 in
theorem DecodeHex_walk (s : ByteArray) (w : World) (hT : TabD w) :
    Calls Tryz.prog 31 #[.string s] w fun e w' => ∃ v, e = .returned (.tuple #[v, .int .i64 (hexR s.data.toList).2]) ∧ Own w' w.heap.size v (hexR s.data.toList).1 ∧ Up w w' := by
  have HT := Hid.of hT
  clear hT
  have HS := Hid.of (Go.Lib.size_eq s)
  go_enter Tryz.func31, Tryz.ntmps31
  go_wp2_with fail
  refine (tooLong_walk s w).mono ?_
  rintro e w' ⟨rfl, hw⟩
  obtain rfl := hw.symm
  dsimp only
  by_cases h1 : 1048576 < s.size
  · have d1 : decide (1048576 < s.size) = true := by simpa using h1
    rw [d1]
    go_wp2
    go_ret2
    rw [hexR_long (by rw [← HS.out]; exact h1)]
    exact ⟨_, rfl, own_nil _ _, Up.refl _⟩
  · have d1 : decide (1048576 < s.size) = false := by simpa using h1
    rw [d1]
    have hle : s.size ≤ 1048576 := by omega
    clear d1 h1
    by_cases h2 : s.size % 2 = 1
    · have d2 : ((s.size : Int) % 2) = 1 := by omega
      have HF := Hid.of (hexD_odd s.data.toList (by rw [← HS.out]; exact h2))
      clear h2
      go_wp2
      go_ret2
      rw [hexR_none (by rw [← HS.out]; omega) HF.out]
      exact ⟨_, rfl, own_nil _ _, Up.refl _⟩
    · have d2 : ((s.size : Int) % 2) = 0 := by omega
      have h2' : s.size % 2 = 0 := by omega
      clear h2
      go_wp2_with (with_reducible show wpList _ _ _ ({ dst := _, op := Op.makeSlice 23 _ _, type := _, pos := _, after := _, guard := _ } :: _) _ _; refine Shut.out ?_)
      show wpList _ _ _ _ _ _
      refine wpList_mk rfl _ _ rfl _ _ _ (s.size / 2) rfl rfl (by omega) (by omega) ?_
      intro w1 h1 u1
      simp only [Act.put, List.setIfInBounds_toArray, List.set_cons_zero, List.set_cons_succ]
      have H1 := Hid.of (And.intro h1 u1)
      clear h1 u1
      go_wp2
      go_loopw [4, 5] (fun v4 v5 wr => ∃ i : Nat, v5 = .int .i64 (i : Int) ∧ i ≤ s.size ∧ i % 2 = 0 ∧ Hid (∃ out, Own wr w.heap.size v4 out ∧ out.length ≤ i ∧ hexD s.data.toList = (hexD (s.data.toList.drop i)).map (out ++ ·) ∧ Up w wr)) (fun _ v5 _ => s.size - (intOf v5).toNat)
      case atStart => exact ⟨0, rfl, by omega, rfl, [], H1.out.1, by simp, by simp, H1.out.2⟩
      case round =>
        obtain ⟨i, rfl, hi, hev, hI⟩ := hrel
        by_cases hlt : i < s.size
        · have hlt1 : i + 1 < s.size := by omega
          obtain ⟨j, hj⟩ : ∃ j, j = i + 1 := ⟨_, rfl⟩
          have hjs : j < s.size := by omega
          have e1 : IntKind.i64.wrap ((i : Int) + 1) = (j : Int) := by
            simp only [IntKind.wrap, IntKind.signed, IntKind.bits]; simp; omega
          have HJ := Hid.of hj
          clear hj hlt1
          have hTr := Hid.of (HT.out.up hI.out.choose_spec.2.2.2)
          have hd := drop_two (l := s.data.toList) (i := i) (by rw [← HS.out]; omega)
          rw [← sget s i hlt, show s.data.toList[i + 1]'(by rw [← HS.out]; omega) = s[j] by rw [sget s j hjs]; congr 1; exact HJ.out.symm] at hd
          have HD := Hid.of hd
          clear hd
          rcases bd_cases s[i] s[j] with ⟨x, eb, hx⟩ | ⟨n, eb, hx⟩
          · have HX := Hid.of (And.intro eb hx)
            clear eb hx
            go_wp2_with fail
            go_quiet (exact (byteOfDigits_walk s[i] s[j] _ (by exact hTr.out)).mono (fun e w' h => ⟨h.1.trans (congrArg Ending.returned HX.out.1), _, h.2⟩))
            go_wp2_with (with_reducible show wpList _ _ _ ({ dst := _, op := Op.call { callee := Callee.builtin Builtin.append, args := _, argTypes := _ }, type := _, pos := _, after := _, guard := _ } :: _) _ _; refine Shut.out ?_)
            show wpList _ _ _ _ _ _
            obtain ⟨out, h1, h2, h3, h4⟩ := hI.out
            have HN := Hid.of (show out.length + 1 ≤ 140737488355328 by omega)
            refine wpList_app1 rfl _ _ rfl w.heap.size _ out [x] rfl (Own.below h1 (by exact (Up.refl _).drewN _)) 1 rfl HN.out (by have := h4.size; simpa using this) ?_
            intro v' w2 h5 h6
            simp only [Act.put, List.setIfInBounds_toArray, List.set_cons_zero, List.set_cons_succ]
            have H5 := Hid.of (And.intro h5 (And.intro (h4.step (Nat.le_refl _) (Below.trans (show Below w.heap.size wr _ from Below.mono ((Up.refl wr).drewN _) h4.size) h6)) (And.intro h2 h3)))
            clear h5 h6 h1 h2 h3 h4 hI
            go_wp2
            go_roundw
            case rel => exact ⟨i + 2, by go_num, by omega, by omega, out ++ [x], H5.out.1, by have := H5.out.2.2.1; simp; omega, by rw [H5.out.2.2.2, HD.out]; simp only [hexD]; rw [HX.out.2]; simp [Option.map_map, Function.comp_def], H5.out.2.1⟩
            case measure => simp [intOf]; omega
          · have HX := Hid.of (And.intro eb hx)
            clear eb hx
            go_wp2_with fail
            go_quiet (exact (byteOfDigits_walk s[i] s[j] _ (by exact hTr.out)).mono (fun e w' h => ⟨h.1.trans (congrArg Ending.returned HX.out.1), _, h.2⟩))
            go_wp2
            go_ret2
            obtain ⟨out, h1, h2, h3, h4⟩ := hI.out
            rw [hexR_none (by rw [← HS.out]; omega) (by rw [h3, HD.out]; simp only [hexD]; rw [HX.out.2]; rfl)]
            exact ⟨_, rfl, own_nil _ _, h4.drewN _⟩
        · have hie : i = s.size := by omega
          obtain ⟨out, h1, h2, h3, h4⟩ := hI.out
          have HF := Hid.of (hexR_some (l := s.data.toList) (x := out) (by rw [← HS.out]; omega) (by rw [h3, hie, HS.out, List.drop_length]; simp [hexD]))
          have H4 := Hid.of (And.intro h1 h4)
          clear h1 h2 h3 h4 hI
          go_wp2
          go_ret2
          rw [HF.out]
          exact ⟨_, rfl, H4.out.1, H4.out.2⟩
end Go.Proofs.YtbdmpdjhgjidlaaGreatDoor
