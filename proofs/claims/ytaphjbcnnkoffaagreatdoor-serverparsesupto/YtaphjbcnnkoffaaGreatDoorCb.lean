import Derived.Test.YtaphjbcnnkoffaaGreatDoorCa
namespace Go.Proofs.YtaphjbcnnkoffaaGreatDoor
open Go.RowKit Go.Shelf TextNum ModNum
theorem isNum_eq (l : List UInt8) : isNum l = (dgl l && (l == [48] || l.head? != some 48)) := by
  unfold isNum dgl
  cases al 4 l with
  | false => rfl
  | true =>
    match l with
    | [] => rfl
    | [c] =>
      by_cases h : c = 48
      · subst h; decide
      · simp [h]
    | c :: d :: r => simp
theorem head_of {s : ByteArray} (h : 0 < s.size) : s.data.toList.head? = some s[0] := by
  rw [List.head?_eq_getElem?, List.getElem?_eq_getElem (by rw [len_of]; exact h)]
  rfl
set_option maxRecDepth 100000 in
set_option maxHeartbeats 1000000 in
theorem number_walk (s : ByteArray) (hs : s.size ≤ 1048576) (w : World) : Calls Tryz.prog 62 #[.string s] w fun e w' => e = .returned (.bool (isNum s.data.toList)) ∧ Up w w' := by
  have HD := Hid.of (digits_walk s hs w)
  have HN := Hid.of (isNum_eq s.data.toList)
  cases hd : dgl s.data.toList with
  | false =>
    rw [hd] at HD HN
    clear hd
    go_enter Tryz.func62, Tryz.ntmps62
    go_wp2_with fail
    refine (HD.out).mono ?_
    rintro e w1 ⟨rfl, u1⟩
    have H1 := Hid.of (u1)
    have Hu1 := Hid.of u1
    clear u1
    dsimp only
    go_wp2
    go_ret
    rw [HN.out]
    exact ⟨rfl, H1.out⟩
  | true =>
    have h0 : 0 < s.size := by
      rcases Nat.eq_zero_or_pos s.size with h | h
      · rw [← len_of] at h
        rw [List.length_eq_zero_iff.1 h] at hd
        cases hd
      · exact h
    have HH := Hid.of (And.intro (head_of h0) trivial)
    rw [hd] at HD HN
    have h0z : (0 : Int) < (s.size : Int) := by omega
    clear hd
    generalize hxx : s[0] = x at *
    by_cases h48 : s.data.toList = [48]
    · have hs : s = ⟨#[48]⟩ := ByteArray.ext (Array.ext' h48)
      subst hs
      go_enter Tryz.func62, Tryz.ntmps62
      go_wp2_with fail
      refine (HD.out).mono ?_
      rintro e w1 ⟨rfl, u1⟩
      have H1 := Hid.of (u1)
      have Hu1 := Hid.of u1
      clear u1
      dsimp only
      go_wp2
      go_ret
      exact ⟨rfl, H1.out⟩
    · have hsb : (s.toList == [48]) = false := by rw [Go.Lib.toList_data]; rwa [beq_eq_false_iff_ne]
      have HB := Hid.of (show isNum s.data.toList = (x != 48) by
        rw [HN.out, HH.out.1, beq_eq_false_iff_ne.2 h48]
        rw [Bool.eq_iff_iff]
        simp)
      have HX := Hid.of (show ((x.toNat : Int) != 48) = (x != 48) by
        rw [Bool.eq_iff_iff, bne_iff_ne, bne_iff_ne]
        constructor
        · intro h e; rw [e] at h; exact h rfl
        · intro h e; exact h (UInt8.toNat_inj.1 (show x.toNat = (48 : UInt8).toNat by show x.toNat = 48; omega)))
      clear h48 HH HN
      go_enter Tryz.func62, Tryz.ntmps62
      go_wp2_with fail
      refine (HD.out).mono ?_
      rintro e w1 ⟨rfl, u1⟩
      have H1 := Hid.of (u1)
      have Hu1 := Hid.of u1
      clear u1
      dsimp only
      go_wp2
      go_ret
      rw [HB.out, ← HX.out]
      exact ⟨rfl, H1.out⟩
theorem isWrd_eq (l : List UInt8) : isWrd l = (al 15 l && !l.isEmpty && (!dgl l || isNum l)) := by
  unfold isWrd
  have h415 : al 4 l = true → al 15 l = true := fun h => al_of fun c hc => by
    have := al_mem h hc
    rw [kd4] at this
    rw [kd15]
    exact .inr (.inr (.inl this))
  match l with
  | [] => rfl
  | c :: r =>
    cases h4 : al 4 (c :: r) with
    | true => rw [if_pos rfl, h415 h4]; simp [dgl, h4]
    | false => simp [dgl, h4]
set_option maxRecDepth 100000 in
set_option maxHeartbeats 2000000 in
theorem word_walk (s : ByteArray) (hs : s.size ≤ 1048576) (w : World) : Calls Tryz.prog 65 #[.string s] w fun e w' => e = .returned (.bool (isWrd s.data.toList)) ∧ Up w w' := by
  have HEm := Hid.of (And.intro (emp_of s) trivial)
  have HW := Hid.of (isWrd_eq s.data.toList)
  go_enter Tryz.func65, Tryz.ntmps65
  go_wp2
  go_loopw [3] (fun v3 wr => ∃ i : Nat, v3 = .int .i64 (i : Int) ∧ i ≤ s.size ∧ Hid (al 15 (s.data.toList.take i) = true ∧ Up w wr)) (fun v3 _ => s.size - (intOf v3).toNat)
  case atStart => exact ⟨0, rfl, by omega, rfl, Up.refl _⟩
  case round =>
    obtain ⟨i, rfl, hi, hI⟩ := hrel
    by_cases hlt : i < s.size
    · have hlt' : (i : Int) < (s.size : Int) := by omega
      have HT := Hid.of (And.intro (al_take (k := 15) hlt) (fun hk => al_no (k := 15) hlt hk))
      have HD := fun w' => Hid.of (digit_walk s[i] w')
      have HS := fun w' => Hid.of (small_walk s[i] w')
      have HC := fun w' => Hid.of (capital_walk s[i] w')
      generalize hxx : s[i] = x at *
      have hk : (kd x.toNat &&& 15 ≠ 0) ↔ (sml x = true ∨ cap x = true ∨ dgt x = true ∨ x.toNat = 45) := by rw [kd15]; simp [dgt, sml, cap]
      have HK := Hid.of hk
      clear hk
      generalize sml x = ss at *
      generalize cap x = cc at *
      generalize dgt x = dd at *
      go_wp2_with fail
      refine ((HS _).out).mono ?_
      rintro e w1 ⟨rfl, u1⟩
      have H1 := Hid.of (hI.out.2.trans u1)
      have Hu1 := Hid.of u1
      clear u1
      dsimp only
      cases ss with
      | true =>
        have HF := Hid.of (show al 15 (s.data.toList.take (i + 1)) = true by rw [HT.out.1, hI.out.1, decide_eq_true (HK.out.2 (.inl rfl))]; rfl)
        clear HT HK
        go_wp2
        go_roundw
        case rel => exact ⟨i + 1, by go_num, by omega, HF.out, H1.out⟩
        case measure => simp [intOf]; omega
      | false =>
        go_wp2_with fail
        refine ((HC _).out).mono ?_
        rintro e w2 ⟨rfl, u2⟩
        have H2 := Hid.of (H1.out.trans u2)
        have Hu2 := Hid.of u2
        clear u2
        dsimp only
        cases cc with
        | true =>
          have HF := Hid.of (show al 15 (s.data.toList.take (i + 1)) = true by rw [HT.out.1, hI.out.1, decide_eq_true (HK.out.2 (.inr (.inl rfl)))]; rfl)
          clear HT HK
          go_wp2
          go_roundw
          case rel => exact ⟨i + 1, by go_num, by omega, HF.out, H2.out⟩
          case measure => simp [intOf]; omega
        | false =>
          go_wp2_with fail
          refine ((HD _).out).mono ?_
          rintro e w3 ⟨rfl, u3⟩
          have H3 := Hid.of (H2.out.trans u3)
          have Hu3 := Hid.of u3
          clear u3
          dsimp only
          cases dd with
          | true =>
            have HF := Hid.of (show al 15 (s.data.toList.take (i + 1)) = true by rw [HT.out.1, hI.out.1, decide_eq_true (HK.out.2 (.inr (.inr (.inl rfl))))]; rfl)
            clear HT HK
            go_wp2
            go_roundw
            case rel => exact ⟨i + 1, by go_num, by omega, HF.out, H3.out⟩
            case measure => simp [intOf]; omega
          | false =>
            by_cases h45 : x.toNat = 45
            · have HF := Hid.of (show al 15 (s.data.toList.take (i + 1)) = true by rw [HT.out.1, hI.out.1, decide_eq_true (HK.out.2 (.inr (.inr (.inr h45))))]; rfl)
              have h45z : (x.toNat : Int) = 45 := by omega
              clear HT HK h45
              go_wp2
              go_roundw
              case rel => exact ⟨i + 1, by go_num, by omega, HF.out, H3.out⟩
              case measure => simp [intOf]; omega
            · have HF := Hid.of (HT.out.2 (fun h => by
                rcases HK.out.1 h with h | h | h | h
                · cases h
                · cases h
                · cases h
                · exact h45 h))
              have h45z : ((x.toNat : Int) != 45) = true := by rw [bne_iff_ne]; omega
              clear HT HK h45
              go_wp2
              go_ret
              rw [HW.out, HF.out]
              exact ⟨rfl, H3.out⟩
    · have hlt' : ¬ (i : Int) < (s.size : Int) := by omega
      have HF := Hid.of (show al 15 s.data.toList = true by
        have := hI.out.1
        rwa [List.take_of_length_le (by rw [len_of]; omega)] at this)
      have HD := fun w' => Hid.of (digits_walk s hs w')
      have HN := fun w' => Hid.of (number_walk s hs w')
      generalize isNum s.data.toList = nn at *
      generalize dgl s.data.toList = dd at *
      cases he : s.toList.isEmpty with
      | true =>
        have HR := Hid.of (show isWrd s.data.toList = false by rw [HW.out, ← HEm.out.1, he]; simp)
        go_wp2
        go_ret
        rw [HR.out]
        exact ⟨rfl, hI.out.2⟩
      | false =>
        have HR := Hid.of (show isWrd s.data.toList = (!dd || nn) by rw [HW.out, ← HEm.out.1, he, HF.out]; simp)
        go_wp2_with fail
        refine ((HD _).out).mono ?_
        rintro e w1 ⟨rfl, u1⟩
        have H1 := Hid.of (hI.out.2.trans u1)
        have Hu1 := Hid.of u1
        clear u1
        dsimp only
        cases dd with
        | false =>
          go_wp2
          go_ret
          rw [HR.out]
          exact ⟨rfl, H1.out⟩
        | true =>
          go_wp2_with fail
          refine ((HN _).out).mono ?_
          rintro e w2 ⟨rfl, u2⟩
          have H2 := Hid.of (H1.out.trans u2)
          have Hu2 := Hid.of u2
          clear u2
          dsimp only
          go_wp2
          go_ret
          rw [HR.out]
          exact ⟨rfl, H2.out⟩
end Go.Proofs.YtaphjbcnnkoffaaGreatDoor
