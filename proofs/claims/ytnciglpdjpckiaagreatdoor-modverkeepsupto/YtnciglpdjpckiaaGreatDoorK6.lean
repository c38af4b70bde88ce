import Derived.Test.YtnciglpdjpckiaaGreatDoorK8
import Derived.Test.YtnciglpdjpckiaaGreatDoorLy
import Derived.Test.YtnciglpdjpckiaaGreatDoorRd
import Derived.Deep.RegionWith
namespace Go.Proofs.YtnciglpdjpckiaaGreatDoor
open Go.RowKit Go.Shelf TextNum ModNum
theorem kd4 (n : Nat) : (kd n &&& 4 ≠ 0) ↔ (48 ≤ n ∧ n ≤ 57) := by
  unfold kd
  (repeat' split) <;> simp <;> omega
theorem kd15 (n : Nat) : (kd n &&& 15 ≠ 0) ↔ ((97 ≤ n ∧ n ≤ 122) ∨ (65 ≤ n ∧ n ≤ 90) ∨ (48 ≤ n ∧ n ≤ 57) ∨ n = 45) := by
  unfold kd
  (repeat' split) <;> simp <;> omega
abbrev dgt (c : UInt8) : Bool := decide (48 ≤ c.toNat) && decide (c.toNat ≤ 57)
abbrev sml (c : UInt8) : Bool := decide (97 ≤ c.toNat) && decide (c.toNat ≤ 122)
abbrev cap (c : UInt8) : Bool := decide (65 ≤ c.toNat) && decide (c.toNat ≤ 90)
theorem digit_walk (c : UInt8) (w : World) : Calls Tryz.prog 148 #[.int .u8 (c.toNat : Int)] w fun e w' => e = .returned (.bool (dgt c)) ∧ Up w w' := by
  by_cases h1 : 48 ≤ c.toNat
  · have h1z : (48 : Int) ≤ (c.toNat : Int) := by omega
    by_cases h2 : c.toNat ≤ 57
    · have h2z : (c.toNat : Int) ≤ 57 := by omega
      have HE : Hid (dgt c = true ∧ True) := ⟨by simp [dgt, h1, h2], trivial⟩
      clear h1 h2
      go_enter Tryz.func148, Tryz.ntmps148
      go_wp2
      go_ret
      rw [HE.out.1]
      exact ⟨rfl, Up.refl _⟩
    · have h2z : ¬ (c.toNat : Int) ≤ 57 := by omega
      have HE : Hid (dgt c = false ∧ True) := ⟨by simp [dgt, h2], trivial⟩
      clear h1 h2
      go_enter Tryz.func148, Tryz.ntmps148
      go_wp2
      go_ret
      rw [HE.out.1]
      exact ⟨rfl, Up.refl _⟩
  · have h1z : ¬ (48 : Int) ≤ (c.toNat : Int) := by omega
    have HE : Hid (dgt c = false ∧ True) := ⟨by simp [dgt, h1], trivial⟩
    clear h1
    go_enter Tryz.func148, Tryz.ntmps148
    go_wp2
    go_ret
    rw [HE.out.1]
    exact ⟨rfl, Up.refl _⟩
theorem small_walk (c : UInt8) (w : World) : Calls Tryz.prog 146 #[.int .u8 (c.toNat : Int)] w fun e w' => e = .returned (.bool (sml c)) ∧ Up w w' := by
  by_cases h1 : 97 ≤ c.toNat
  · have h1z : (97 : Int) ≤ (c.toNat : Int) := by omega
    by_cases h2 : c.toNat ≤ 122
    · have h2z : (c.toNat : Int) ≤ 122 := by omega
      have HE : Hid (sml c = true ∧ True) := ⟨by simp [sml, h1, h2], trivial⟩
      clear h1 h2
      go_enter Tryz.func146, Tryz.ntmps146
      go_wp2
      go_ret
      rw [HE.out.1]
      exact ⟨rfl, Up.refl _⟩
    · have h2z : ¬ (c.toNat : Int) ≤ 122 := by omega
      have HE : Hid (sml c = false ∧ True) := ⟨by simp [sml, h2], trivial⟩
      clear h1 h2
      go_enter Tryz.func146, Tryz.ntmps146
      go_wp2
      go_ret
      rw [HE.out.1]
      exact ⟨rfl, Up.refl _⟩
  · have h1z : ¬ (97 : Int) ≤ (c.toNat : Int) := by omega
    have HE : Hid (sml c = false ∧ True) := ⟨by simp [sml, h1], trivial⟩
    clear h1
    go_enter Tryz.func146, Tryz.ntmps146
    go_wp2
    go_ret
    rw [HE.out.1]
    exact ⟨rfl, Up.refl _⟩
theorem capital_walk (c : UInt8) (w : World) : Calls Tryz.prog 147 #[.int .u8 (c.toNat : Int)] w fun e w' => e = .returned (.bool (cap c)) ∧ Up w w' := by
  by_cases h1 : 65 ≤ c.toNat
  · have h1z : (65 : Int) ≤ (c.toNat : Int) := by omega
    by_cases h2 : c.toNat ≤ 90
    · have h2z : (c.toNat : Int) ≤ 90 := by omega
      have HE : Hid (cap c = true ∧ True) := ⟨by simp [cap, h1, h2], trivial⟩
      clear h1 h2
      go_enter Tryz.func147, Tryz.ntmps147
      go_wp2
      go_ret
      rw [HE.out.1]
      exact ⟨rfl, Up.refl _⟩
    · have h2z : ¬ (c.toNat : Int) ≤ 90 := by omega
      have HE : Hid (cap c = false ∧ True) := ⟨by simp [cap, h2], trivial⟩
      clear h1 h2
      go_enter Tryz.func147, Tryz.ntmps147
      go_wp2
      go_ret
      rw [HE.out.1]
      exact ⟨rfl, Up.refl _⟩
  · have h1z : ¬ (65 : Int) ≤ (c.toNat : Int) := by omega
    have HE : Hid (cap c = false ∧ True) := ⟨by simp [cap, h1], trivial⟩
    clear h1
    go_enter Tryz.func147, Tryz.ntmps147
    go_wp2
    go_ret
    rw [HE.out.1]
    exact ⟨rfl, Up.refl _⟩
/-- one or more digits -/
abbrev dgl (l : List UInt8) : Bool := al 4 l && !l.isEmpty
theorem al_take {s : ByteArray} {i k : Nat} (h : i < s.size) : al k (s.data.toList.take (i + 1)) = (al k (s.data.toList.take i) && decide (kd s[i].toNat &&& k ≠ 0)) := by
  rw [take_succ h, al_append, al_cons, al_nil, Bool.and_true]
theorem al_no {s : ByteArray} {i k : Nat} (h : i < s.size) (hk : ¬ (kd s[i].toNat &&& k ≠ 0)) : al k s.data.toList = false := by
  rw [← List.take_append_drop (i + 1) s.data.toList, al_append, al_take h, decide_eq_false hk]
  simp
theorem emp_of (s : ByteArray) : s.toList.isEmpty = s.data.toList.isEmpty := by rw [Go.Lib.toList_data]
set_option maxRecDepth 100000 in
set_option maxHeartbeats 1000000 in
theorem digits_walk (s : ByteArray) (hs : s.size ≤ 1048576) (w : World) : Calls Tryz.prog 150 #[.string s] w fun e w' => e = .returned (.bool (dgl s.data.toList)) ∧ Up w w' := by
  have hem := emp_of s
  have HEm := Hid.of (And.intro hem trivial)
  clear hem
  go_enter Tryz.func150, Tryz.ntmps150
  go_wp2
  go_loopw [3] (fun v3 wr => ∃ i : Nat, v3 = .int .i64 (i : Int) ∧ i ≤ s.size ∧ Hid (al 4 (s.data.toList.take i) = true ∧ Up w wr)) (fun v3 _ => s.size - (intOf v3).toNat)
  case atStart => exact ⟨0, rfl, by omega, rfl, Up.refl _⟩
  case round =>
    obtain ⟨i, rfl, hi, hI⟩ := hrel
    by_cases hlt : i < s.size
    · have hlt' : (i : Int) < (s.size : Int) := by omega
      have HT := Hid.of (And.intro (al_take (k := 4) hlt) (fun hk => al_no (k := 4) hlt hk))
      have HD := Hid.of (digit_walk s[i] wr)
      generalize hxx : s[i] = x at *
      have hd : dgt x = true ↔ (kd x.toNat &&& 4 ≠ 0) := by rw [kd4]; simp [dgt]
      go_wp2_with fail
      refine HD.out.mono ?_
      rintro e w1 ⟨rfl, u1⟩
      have H1 := Hid.of (hI.out.2.trans u1)
      clear u1 HD
      dsimp only
      cases hx : dgt x with
      | false =>
        have HF := Hid.of (HT.out.2 (fun h => by rw [hd.2 h] at hx; cases hx))
        clear hx hd HT
        go_wp2
        go_ret
        simp only [dgl, HF.out, Bool.false_and]
        exact ⟨rfl, H1.out⟩
      | true =>
        have HF := Hid.of (show al 4 (s.data.toList.take (i + 1)) = true by rw [HT.out.1, hI.out.1, decide_eq_true (hd.1 hx)]; rfl)
        clear hx hd HT
        go_wp2
        go_roundw
        case rel => exact ⟨i + 1, by go_num, by omega, HF.out, H1.out⟩
        case measure => simp [intOf]; omega
    · have hlt' : ¬ (i : Int) < (s.size : Int) := by omega
      have HF := Hid.of (show al 4 s.data.toList = true by
        have := hI.out.1
        rwa [List.take_of_length_le (by rw [len_of]; omega)] at this)
      go_wp2
      go_ret
      simp only [dgl, HF.out, Bool.true_and, ← HEm.out.1]
      exact ⟨rfl, hI.out.2⟩
end Go.Proofs.YtnciglpdjpckiaaGreatDoor
namespace Go.Proofs.YtnciglpdjpckiaaGreatDoor
open Go.RowKit Go.Shelf TextNum ModNum
theorem isNum_eq (l : List UInt8) : isNum l = (dgl l && (l == [48] || l.head? != some 48)) := by
  unfold isNum dgl
  cases al 4 l with
  | false => rfl
  | true =>
    match l with
    | [] => rfl
    | [c] =>
      by_cases h : c = 48
      · subst h; decide
      · simp [h]
    | c :: d :: r => simp
theorem head_of {s : ByteArray} (h : 0 < s.size) : s.data.toList.head? = some s[0] := by
  rw [List.head?_eq_getElem?, List.getElem?_eq_getElem (by rw [len_of]; exact h)]
  rfl
set_option maxRecDepth 100000 in
set_option maxHeartbeats 1000000 in
theorem number_walk (s : ByteArray) (hs : s.size ≤ 1048576) (w : World) : Calls Tryz.prog 115 #[.string s] w fun e w' => e = .returned (.bool (isNum s.data.toList)) ∧ Up w w' := by
  have HD := Hid.of (digits_walk s hs w)
  have HN := Hid.of (isNum_eq s.data.toList)
  cases hd : dgl s.data.toList with
  | false =>
    rw [hd] at HD HN
    clear hd
    go_enter Tryz.func115, Tryz.ntmps115
    go_wp2_with fail
    refine (HD.out).mono ?_
    rintro e w1 ⟨rfl, u1⟩
    have H1 := Hid.of (u1)
    have Hu1 := Hid.of u1
    clear u1
    dsimp only
    go_wp2
    go_ret
    rw [HN.out]
    exact ⟨rfl, H1.out⟩
  | true =>
    have h0 : 0 < s.size := by
      rcases Nat.eq_zero_or_pos s.size with h | h
      · rw [← len_of] at h
        rw [List.length_eq_zero_iff.1 h] at hd
        cases hd
      · exact h
    have HH := Hid.of (And.intro (head_of h0) trivial)
    rw [hd] at HD HN
    have h0z : (0 : Int) < (s.size : Int) := by omega
    clear hd
    generalize hxx : s[0] = x at *
    by_cases h48 : s.data.toList = [48]
    · have hs : s = ⟨#[48]⟩ := ByteArray.ext (Array.ext' h48)
      subst hs
      go_enter Tryz.func115, Tryz.ntmps115
      go_wp2_with fail
      refine (HD.out).mono ?_
      rintro e w1 ⟨rfl, u1⟩
      have H1 := Hid.of (u1)
      have Hu1 := Hid.of u1
      clear u1
      dsimp only
      go_wp2
      go_ret
      exact ⟨rfl, H1.out⟩
    · have hsb : (s.toList == [48]) = false := by rw [Go.Lib.toList_data]; rwa [beq_eq_false_iff_ne]
      have HB := Hid.of (show isNum s.data.toList = (x != 48) by
        rw [HN.out, HH.out.1, beq_eq_false_iff_ne.2 h48]
        rw [Bool.eq_iff_iff]
        simp)
      have HX := Hid.of (show ((x.toNat : Int) != 48) = (x != 48) by
        rw [Bool.eq_iff_iff, bne_iff_ne, bne_iff_ne]
        constructor
        · intro h e; rw [e] at h; exact h rfl
        · intro h e; exact h (UInt8.toNat_inj.1 (show x.toNat = (48 : UInt8).toNat by show x.toNat = 48; omega)))
      clear h48 HH HN
      go_enter Tryz.func115, Tryz.ntmps115
      go_wp2_with fail
      refine (HD.out).mono ?_
      rintro e w1 ⟨rfl, u1⟩
      have H1 := Hid.of (u1)
      have Hu1 := Hid.of u1
      clear u1
      dsimp only
      go_wp2
      go_ret
      rw [HB.out, ← HX.out]
      exact ⟨rfl, H1.out⟩
theorem isWrd_eq (l : List UInt8) : isWrd l = (al 15 l && !l.isEmpty && (!dgl l || isNum l)) := by
  unfold isWrd
  have h415 : al 4 l = true → al 15 l = true := fun h => al_of fun c hc => by
    have := al_mem h hc
    rw [kd4] at this
    rw [kd15]
    exact .inr (.inr (.inl this))
  match l with
  | [] => rfl
  | c :: r =>
    cases h4 : al 4 (c :: r) with
    | true => rw [if_pos rfl, h415 h4]; simp [dgl, h4]
    | false => simp [dgl, h4]
set_option maxRecDepth 100000 in
set_option maxHeartbeats 2000000 in
theorem word_walk (s : ByteArray) (hs : s.size ≤ 1048576) (w : World) : Calls Tryz.prog 118 #[.string s] w fun e w' => e = .returned (.bool (isWrd s.data.toList)) ∧ Up w w' := by
  have HEm := Hid.of (And.intro (emp_of s) trivial)
  have HW := Hid.of (isWrd_eq s.data.toList)
  go_enter Tryz.func118, Tryz.ntmps118
  go_wp2
  go_loopw [3] (fun v3 wr => ∃ i : Nat, v3 = .int .i64 (i : Int) ∧ i ≤ s.size ∧ Hid (al 15 (s.data.toList.take i) = true ∧ Up w wr)) (fun v3 _ => s.size - (intOf v3).toNat)
  case atStart => exact ⟨0, rfl, by omega, rfl, Up.refl _⟩
  case round =>
    obtain ⟨i, rfl, hi, hI⟩ := hrel
    by_cases hlt : i < s.size
    · have hlt' : (i : Int) < (s.size : Int) := by omega
      have HT := Hid.of (And.intro (al_take (k := 15) hlt) (fun hk => al_no (k := 15) hlt hk))
      have HD := fun w' => Hid.of (digit_walk s[i] w')
      have HS := fun w' => Hid.of (small_walk s[i] w')
      have HC := fun w' => Hid.of (capital_walk s[i] w')
      generalize hxx : s[i] = x at *
      have hk : (kd x.toNat &&& 15 ≠ 0) ↔ (sml x = true ∨ cap x = true ∨ dgt x = true ∨ x.toNat = 45) := by rw [kd15]; simp [dgt, sml, cap]
      have HK := Hid.of hk
      clear hk
      generalize sml x = ss at *
      generalize cap x = cc at *
      generalize dgt x = dd at *
      go_wp2_with fail
      refine ((HS _).out).mono ?_
      rintro e w1 ⟨rfl, u1⟩
      have H1 := Hid.of (hI.out.2.trans u1)
      have Hu1 := Hid.of u1
      clear u1
      dsimp only
      cases ss with
      | true =>
        have HF := Hid.of (show al 15 (s.data.toList.take (i + 1)) = true by rw [HT.out.1, hI.out.1, decide_eq_true (HK.out.2 (.inl rfl))]; rfl)
        clear HT HK
        go_wp2
        go_roundw
        case rel => exact ⟨i + 1, by go_num, by omega, HF.out, H1.out⟩
        case measure => simp [intOf]; omega
      | false =>
        go_wp2_with fail
        refine ((HC _).out).mono ?_
        rintro e w2 ⟨rfl, u2⟩
        have H2 := Hid.of (H1.out.trans u2)
        have Hu2 := Hid.of u2
        clear u2
        dsimp only
        cases cc with
        | true =>
          have HF := Hid.of (show al 15 (s.data.toList.take (i + 1)) = true by rw [HT.out.1, hI.out.1, decide_eq_true (HK.out.2 (.inr (.inl rfl)))]; rfl)
          clear HT HK
          go_wp2
          go_roundw
          case rel => exact ⟨i + 1, by go_num, by omega, HF.out, H2.out⟩
          case measure => simp [intOf]; omega
        | false =>
          go_wp2_with fail
          refine ((HD _).out).mono ?_
          rintro e w3 ⟨rfl, u3⟩
          have H3 := Hid.of (H2.out.trans u3)
          have Hu3 := Hid.of u3
          clear u3
          dsimp only
          cases dd with
          | true =>
            have HF := Hid.of (show al 15 (s.data.toList.take (i + 1)) = true by rw [HT.out.1, hI.out.1, decide_eq_true (HK.out.2 (.inr (.inr (.inl rfl))))]; rfl)
            clear HT HK
            go_wp2
            go_roundw
            case rel => exact ⟨i + 1, by go_num, by omega, HF.out, H3.out⟩
            case measure => simp [intOf]; omega
          | false =>
            by_cases h45 : x.toNat = 45
            · have HF := Hid.of (show al 15 (s.data.toList.take (i + 1)) = true by rw [HT.out.1, hI.out.1, decide_eq_true (HK.out.2 (.inr (.inr (.inr h45))))]; rfl)
              have h45z : (x.toNat : Int) = 45 := by omega
              clear HT HK h45
              go_wp2
              go_roundw
              case rel => exact ⟨i + 1, by go_num, by omega, HF.out, H3.out⟩
              case measure => simp [intOf]; omega
            · have HF := Hid.of (HT.out.2 (fun h => by
                rcases HK.out.1 h with h | h | h | h
                · cases h
                · cases h
                · cases h
                · exact h45 h))
              have h45z : ((x.toNat : Int) != 45) = true := by rw [bne_iff_ne]; omega
              clear HT HK h45
              go_wp2
              go_ret
              rw [HW.out, HF.out]
              exact ⟨rfl, H3.out⟩
    · have hlt' : ¬ (i : Int) < (s.size : Int) := by omega
      have HF := Hid.of (show al 15 s.data.toList = true by
        have := hI.out.1
        rwa [List.take_of_length_le (by rw [len_of]; omega)] at this)
      have HD := fun w' => Hid.of (digits_walk s hs w')
      have HN := fun w' => Hid.of (number_walk s hs w')
      generalize isNum s.data.toList = nn at *
      generalize dgl s.data.toList = dd at *
      cases he : s.toList.isEmpty with
      | true =>
        have HR := Hid.of (show isWrd s.data.toList = false by rw [HW.out, ← HEm.out.1, he]; simp)
        go_wp2
        go_ret
        rw [HR.out]
        exact ⟨rfl, hI.out.2⟩
      | false =>
        have HR := Hid.of (show isWrd s.data.toList = (!dd || nn) by rw [HW.out, ← HEm.out.1, he, HF.out]; simp)
        go_wp2_with fail
        refine ((HD _).out).mono ?_
        rintro e w1 ⟨rfl, u1⟩
        have H1 := Hid.of (hI.out.2.trans u1)
        have Hu1 := Hid.of u1
        clear u1
        dsimp only
        cases dd with
        | false =>
          go_wp2
          go_ret
          rw [HR.out]
          exact ⟨rfl, H1.out⟩
        | true =>
          go_wp2_with fail
          refine ((HN _).out).mono ?_
          rintro e w2 ⟨rfl, u2⟩
          have H2 := Hid.of (H1.out.trans u2)
          have Hu2 := Hid.of u2
          clear u2
          dsimp only
          go_wp2
          go_ret
          rw [HR.out]
          exact ⟨rfl, H2.out⟩
end Go.Proofs.YtnciglpdjpckiaaGreatDoor
namespace Go.Proofs.YtnciglpdjpckiaaGreatDoor
open Go.RowKit Go.Shelf TextNum ModNum
theorem drop_at {s : ByteArray} {i : Nat} (h : i < s.size) : s.data.toList.drop i = s[i] :: s.data.toList.drop (i + 1) := by
  rw [List.drop_eq_getElem_cons (by rw [len_of]; exact h)]
  rfl
theorem cmpB_at {a b : ByteArray} {i : Nat} (ha : i < a.size) (hb : i < b.size) : cmpB (a.data.toList.drop i) (b.data.toList.drop i) = if a[i].toNat < b[i].toNat then -1 else if b[i].toNat < a[i].toNat then 1 else cmpB (a.data.toList.drop (i + 1)) (b.data.toList.drop (i + 1)) := by
  rw [drop_at ha, drop_at hb]
  rfl
set_option maxRecDepth 100000 in
set_option maxHeartbeats 2000000 in
theorem bytes_walk' (a b : ByteArray) (hsa : a.size ≤ 1048576) (w : World) : Calls Tryz.prog 63 #[.string a, .string b] w fun e w' => e = .returned (.int .i64 (cmpB a.data.toList b.data.toList)) ∧ Up w w' := by
  go_enter Tryz.func63, Tryz.ntmps63
  go_wp2
  go_loopw [5] (fun v5 wr => ∃ i : Nat, v5 = .int .i64 (i : Int) ∧ i ≤ a.size ∧ i ≤ b.size ∧ Hid (cmpB a.data.toList b.data.toList = cmpB (a.data.toList.drop i) (b.data.toList.drop i) ∧ Up w wr)) (fun v5 _ => a.size - (intOf v5).toNat)
  case atStart => exact ⟨0, rfl, by omega, by omega, rfl, Up.refl _⟩
  case round =>
    obtain ⟨i, rfl, hi, hib, hI⟩ := hrel
    by_cases hla : i < a.size
    · have hlaz : (i : Int) < (a.size : Int) := by omega
      by_cases hlb : i < b.size
      · have hlbz : (i : Int) < (b.size : Int) := by omega
        have HX := Hid.of (hI.out.1.trans (cmpB_at hla hlb))
        generalize hxx : a[i] = x at *
        generalize hyy : b[i] = y at *
        rcases Nat.lt_trichotomy x.toNat y.toNat with h | h | h
        · have HR := Hid.of (HX.out.trans (if_pos h))
          have h1 : ((x.toNat : Int) != (y.toNat : Int)) = true := by rw [bne_iff_ne]; omega
          have h2 : (x.toNat : Int) < (y.toNat : Int) := by omega
          clear h HX
          go_wp2
          go_region
          go_wp2
          go_region
          go_wp2
          go_ret
          rw [HR.out]
          exact ⟨rfl, hI.out.2.drew.drew⟩
        · have HR := Hid.of (HX.out.trans (by rw [if_neg (by omega), if_neg (by omega)]))
          have h1 : (x.toNat : Int) = (y.toNat : Int) := by omega
          clear h HX
          go_wp2
          go_region
          go_wp2
          go_roundw
          case rel => exact ⟨i + 1, by go_num, by omega, by omega, HR.out, hI.out.2.drew⟩
          case measure => simp [intOf]; omega
        · have HR := Hid.of (HX.out.trans (by rw [if_neg (by omega), if_pos h]))
          have h1 : ((x.toNat : Int) != (y.toNat : Int)) = true := by rw [bne_iff_ne]; omega
          have h2 : ¬ (x.toNat : Int) < (y.toNat : Int) := by omega
          clear h HX
          go_wp2
          go_region
          go_wp2
          go_region
          go_wp2
          go_ret
          rw [HR.out]
          exact ⟨rfl, hI.out.2.drew.drew⟩
      · have hlbz : ¬ (i : Int) < (b.size : Int) := by omega
        have h1 : ¬ (a.size : Int) < (b.size : Int) := by omega
        have h2 : (b.size : Int) < (a.size : Int) := by omega
        have HR := Hid.of (show cmpB a.data.toList b.data.toList = 1 by
          rw [hI.out.1, drop_at hla, List.drop_of_length_le (l := b.data.toList) (by rw [len_of]; omega)]; rfl)
        go_wp2
        go_ret
        rw [HR.out]
        exact ⟨rfl, hI.out.2⟩
    · have hlaz : ¬ (i : Int) < (a.size : Int) := by omega
      by_cases hlb : i < b.size
      · have h1 : (a.size : Int) < (b.size : Int) := by omega
        have HR := Hid.of (show cmpB a.data.toList b.data.toList = -1 by
          rw [hI.out.1, drop_at hlb, List.drop_of_length_le (l := a.data.toList) (by rw [len_of]; omega)]; rfl)
        go_wp2
        go_ret
        rw [HR.out]
        exact ⟨rfl, hI.out.2⟩
      · have h1 : ¬ (a.size : Int) < (b.size : Int) := by omega
        have h2 : ¬ (b.size : Int) < (a.size : Int) := by omega
        have HR := Hid.of (show cmpB a.data.toList b.data.toList = 0 by
          rw [hI.out.1, List.drop_of_length_le (l := b.data.toList) (by rw [len_of]; omega), List.drop_of_length_le (l := a.data.toList) (by rw [len_of]; omega)]; rfl)
        go_wp2
        go_ret
        rw [HR.out]
        exact ⟨rfl, hI.out.2⟩
set_option maxRecDepth 100000 in
theorem numbers_walk (a b : ByteArray) (hsa : a.size ≤ 1048576) (w : World) : Calls Tryz.prog 75 #[.string a, .string b] w fun e w' => e = .returned (.int .i64 (cmpU a.data.toList b.data.toList)) ∧ Up w w' := by
  have HB := Hid.of (bytes_walk' a b hsa w)
  have HU : Hid (cmpU a.data.toList b.data.toList = if cmpN a.size b.size = 0 then cmpB a.data.toList b.data.toList else cmpN a.size b.size) := by
    rw [← len_of a, ← len_of b]; rfl
  generalize cmpU a.data.toList b.data.toList = u at *
  generalize cmpB a.data.toList b.data.toList = c at *
  rcases Nat.lt_trichotomy a.size b.size with h | h | h
  · have HR := Hid.of (show u = -1 by rw [HU.out]; simp [cmpN, h])
    have h1 : ((a.size : Int) != (b.size : Int)) = true := by rw [bne_iff_ne]; omega
    have h2 : (a.size : Int) < (b.size : Int) := by omega
    clear h HU
    go_enter Tryz.func75, Tryz.ntmps75
    go_wp2
    go_ret
    rw [HR.out]
    exact ⟨rfl, Up.refl _⟩
  · have HR := Hid.of (show u = c by rw [HU.out]; simp [cmpN, h])
    have h1 : (a.size : Int) = (b.size : Int) := by omega
    clear h HU
    go_enter Tryz.func75, Tryz.ntmps75
    go_wp2_with fail
    refine (HB.out).mono ?_
    rintro e w1 ⟨rfl, u1⟩
    have H1 := Hid.of (u1)
    have Hu1 := Hid.of u1
    clear u1
    dsimp only
    go_wp2
    go_ret
    rw [HR.out]
    exact ⟨rfl, H1.out⟩
  · have HR := Hid.of (show u = 1 by rw [HU.out]; simp [cmpN, h, Nat.lt_asymm h])
    have h1 : ((a.size : Int) != (b.size : Int)) = true := by rw [bne_iff_ne]; omega
    have h2 : ¬ (a.size : Int) < (b.size : Int) := by omega
    clear h HU
    go_enter Tryz.func75, Tryz.ntmps75
    go_wp2
    go_ret
    rw [HR.out]
    exact ⟨rfl, Up.refl _⟩
theorem wrd_num {l : List UInt8} (h : isWrd l = true) : isNum l = dgl l := by
  have h1 := isWrd_eq l
  rw [h] at h1
  cases hd : dgl l with
  | true =>
    rw [hd] at h1
    simp at h1
    exact h1.2
  | false => rw [isNum_eq, hd]; rfl
set_option maxRecDepth 100000 in
theorem words_walk (a b : ByteArray) (hsa : a.size ≤ 1048576) (hsb : b.size ≤ 1048576) (ha : isWrd a.data.toList = true) (hb : isWrd b.data.toList = true) (w : World) : Calls Tryz.prog 123 #[.string a, .string b] w fun e w' => e = .returned (.int .i64 (cmpW a.data.toList b.data.toList)) ∧ Up w w' := by
  have HB := fun w' => Hid.of (bytes_walk' a b hsa w')
  have HN := fun w' => Hid.of (numbers_walk a b hsa w')
  have HX := Hid.of (digits_walk a hsa w)
  have HY := fun w' => Hid.of (digits_walk b hsb w')
  have HW : Hid (cmpW a.data.toList b.data.toList = if dgl a.data.toList then (if dgl b.data.toList then cmpU a.data.toList b.data.toList else -1) else if dgl b.data.toList then 1 else cmpB a.data.toList b.data.toList) := by
    rw [← wrd_num ha, ← wrd_num hb]; rfl
  generalize cmpW a.data.toList b.data.toList = r at *
  generalize cmpU a.data.toList b.data.toList = u at *
  generalize cmpB a.data.toList b.data.toList = c at *
  generalize dgl a.data.toList = x at *
  generalize dgl b.data.toList = y at *
  clear ha hb hsa hsb
  go_enter Tryz.func123, Tryz.ntmps123
  go_wp2_with fail
  refine (HX.out).mono ?_
  rintro e w1 ⟨rfl, u1⟩
  have H1 := Hid.of (u1)
  have Hu1 := Hid.of u1
  clear u1
  dsimp only
  go_wp2_with fail
  refine ((HY _).out).mono ?_
  rintro e w2 ⟨rfl, u2⟩
  have H2 := Hid.of (H1.out.trans u2)
  have Hu2 := Hid.of u2
  clear u2
  dsimp only
  cases x with
  | true =>
    cases y with
    | true =>
      have HR := Hid.of HW.out
      go_wp2_with fail
      refine ((HN _).out).mono ?_
      rintro e w3 ⟨rfl, u3⟩
      have H3 := Hid.of (H2.out.trans u3)
      have Hu3 := Hid.of u3
      clear u3
      dsimp only
      go_wp2
      go_ret
      rw [HR.out]
      exact ⟨rfl, H3.out⟩
    | false =>
      have HR := Hid.of HW.out
      go_wp2
      go_ret
      rw [HR.out]
      exact ⟨rfl, H2.out⟩
  | false =>
    cases y with
    | true =>
      have HR := Hid.of HW.out
      go_wp2
      go_ret
      rw [HR.out]
      exact ⟨rfl, H2.out⟩
    | false =>
      have HR := Hid.of HW.out
      go_wp2_with fail
      refine ((HB _).out).mono ?_
      rintro e w3 ⟨rfl, u3⟩
      have H3 := Hid.of (H2.out.trans u3)
      have Hu3 := Hid.of u3
      clear u3
      dsimp only
      go_wp2
      go_ret
      rw [HR.out]
      exact ⟨rfl, H3.out⟩
end Go.Proofs.YtnciglpdjpckiaaGreatDoor
namespace Go.Proofs.YtnciglpdjpckiaaGreatDoor
open Go.RowKit Go.Shelf TextNum ModNum
theorem cst_one (xs : List (List UInt8)) : ∀ u ∈ cst xs, u.oneCell' = true := by
  intro u hu
  obtain ⟨c, _, rfl⟩ := List.mem_map.1 hu
  rfl
theorem ownS_nil (w : World) (B : Nat) : OwnS w B (.slice none 0 0) [] := World.ownsRow_nil w B 9 1
theorem OwnS.up {w w' : World} {B : Nat} {v : Value} {xs : List (List UInt8)} (h : OwnS w B v xs) (k : Up w w') : OwnS w' B v xs := by
  refine ⟨h.1, ?_⟩
  rcases h.2 with e | ⟨g, cap, cur, e, hbg, hg, r⟩
  · exact .inl e
  · exact .inr ⟨g, cap, cur, e, hbg, (k.block g (Array.getElem?_eq_some_iff.1 hg).1).trans hg, r⟩
theorem wpList_appS {ops : Array Oper} {rest : List Oper} {o : Oper} {a : Act} {w : World} {t : TypeId} {Q : Exit → Act → World → Prop} (hgd : o.guard = none) (s x : Operand)
    (ho : o.op = .call { callee := .builtin .append, args := #[s, x], argTypes := #[22, 22] }) (B : Nat) (v : Value) (xs : List (List UInt8)) (y : List UInt8) (hs : a.eval s = v) (hown : OwnS w B v xs)
    (c : Nat) (hx : a.eval x = .slice (some ⟨w.heap.size, 0, none⟩) 1 c) (hn : xs.length + 1 ≤ 1099511627776) (hB : B ≤ w.heap.size)
    (h : ∀ v' w', OwnS w' B v' (xs ++ [y]) → Below B w w' → wpList Tryz.prog ops Q rest (a.put o.dst v') w') : wpList Tryz.prog ops Q (o :: rest) a (w.alloc (.cells (cst [y]).toArray t)) := by
  obtain ⟨i0, hi, hz0, hz1, hz2⟩ := info_parts Tryz.infoStr
  refine wpList_append_own _ hgd s x 22 ho B 9 i0 (.string ⟨#[]⟩) 1 16 Tryz.underlying22 hi hz0 hz1 hz2 rfl (by decide) v xs.length (cst xs) hs (OwnS.up hown ((Up.refl w).alloc _)) ⟨w.heap.size, 0, none⟩ 1 c (cst [y]) hx (by simp [cst]) (cells_new w t (cst [y])) (cst_one [y]) (by unfold maxLen; omega) (by omega) (by simp; omega) ?_
  intro v' w' h1 h2 _
  refine h v' w' ?_ (((Below.refl B w).alloc hB _).trans ((Below.refl B _).grown h2 (by simp; omega) (fun k hk => (World.ownsRow.lt hown k hk).1)))
  unfold OwnS
  rw [List.length_append, List.map_append]
  exact h1
theorem seg_no {c : UInt8} {L : List UInt8} {f i : Nat} (hf : f ≤ i) (hi : i ≤ L.length) (h : ∀ k (hk : k < L.length), f ≤ k → k < i → L[k] ≠ c) : c ∉ (L.drop f).take (i - f) := by
  intro hm
  obtain ⟨k, hk, e⟩ := List.mem_iff_getElem.1 hm
  have hk' : k < i - f := by rw [List.length_take] at hk; omega
  rw [List.getElem_take, List.getElem_drop] at e
  exact h (f + k) (by omega) (by omega) (by omega) e
theorem seg_cut {c : UInt8} {L : List UInt8} {f i : Nat} (hf : f ≤ i) (hi : i < L.length) (h10 : L[i] = c) : L.drop f = (L.drop f).take (i - f) ++ c :: L.drop (i + 1) := by
  have h1 := List.take_append_drop (i - f) (L.drop f)
  rw [List.drop_drop, show f + (i - f) = i by omega, List.drop_eq_getElem_cons hi, h10] at h1
  exact h1.symm
theorem ext_str (s : ByteArray) (a b : Nat) : s.extract a b = ⟨((s.data.toList.drop a).take (b - a)).toArray⟩ := by
  have h := Go.Lib.extract_data s a b
  cases hh : s.extract a b with
  | mk d =>
    rw [hh] at h
    simp only at h
    congr 1
    rw [← h]
theorem u8z {a b : UInt8} : ((a.toNat : Int) == (b.toNat : Int)) = (a == b) := by
  rw [Bool.eq_iff_iff, beq_iff_eq, beq_iff_eq]
  constructor
  · intro h; exact UInt8.toNat_inj.1 (by omega)
  · intro h; rw [h]
set_option maxRecDepth 100000 in
set_option maxHeartbeats 1000000 in
theorem Pieces_walk (s : ByteArray) (c : UInt8) (hs : s.size ≤ 1048576) (w : World) : Calls Tryz.prog 52 #[.string s, .int .u8 (c.toNat : Int)] w fun e w' => ∃ v, e = .returned v ∧ OwnS w' w.heap.size v (pcs c s.data.toList) ∧ Up w w' := by
  have HS := Hid.of (Go.Lib.size_eq s)
  go_enter Tryz.func52, Tryz.ntmps52
  go_wp2
  go_loopw [5, 6, 7] (fun v5 v6 v7 wr => ∃ f i : Nat, v6 = .int .i64 (f : Int) ∧ v7 = .int .i64 (i : Int) ∧ f ≤ i ∧ i ≤ s.size ∧ Hid (∃ xs, OwnS wr w.heap.size v5 xs ∧ xs.length ≤ i ∧ pcs c s.data.toList = xs ++ pcs c (s.data.toList.drop f) ∧ Up w wr ∧ ∀ k (hk : k < s.data.toList.length), f ≤ k → k < i → s.data.toList[k] ≠ c)) (fun _ _ v7 _ => s.size - (intOf v7).toNat)
  case atStart => exact ⟨0, 0, rfl, rfl, by omega, by omega, [], ownS_nil _ _, by simp, by simp, Up.refl _, fun k hk h1 h2 => absurd h2 (Nat.not_lt_zero _)⟩
  case round =>
    obtain ⟨f, i, rfl, rfl, hf, hi, hI⟩ := hrel
    obtain ⟨wb, hwb⟩ : ∃ wb, wb = wr := ⟨_, rfl⟩
    subst hwb
    by_cases hlt : i < s.size
    · have hlt' : (i : Int) < (s.size : Int) := by omega
      have hlL : i < s.data.toList.length := by rw [← HS.out]; exact hlt
      by_cases hd : s[i] = c
      · have hd' : ((s[i].toNat : Int) == (c.toNat : Int)) = true := by rw [u8z, hd]; exact beq_self_eq_true c
        obtain ⟨xs, o1, o2, o3, o4, o5⟩ := hI.out
        have hd2 : s.data.toList[i] = c := by rw [← sget' s i hlt]; exact hd
        have HX := Hid.of (And.intro (seg_no hf (by omega) o5) (seg_cut hf hlL hd2))
        have HO := Hid.of (And.intro o1 (And.intro o3 o4))
        have e1 : (f : Int) ≤ (i : Int) := by omega
        clear o1 o3 o4 o5 hd hI hd2
        go_wp2_with (with_reducible show wpList _ _ _ ({ dst := _, op := Op.call { callee := Callee.builtin Builtin.append, args := _, argTypes := _ }, type := _, pos := _, after := _, guard := _ } :: _) _ _; refine Shut.out ?_)
        show wpList _ _ _ _ _ _
        simp only [ext_str]
        refine wpList_appS rfl _ _ rfl w.heap.size _ xs ((s.data.toList.drop f).take (i - f)) rfl (by exact HO.out.1) 1 rfl (by omega) HO.out.2.2.size ?_
        intro v' w3 h3 k3
        have H3 := Hid.of (And.intro h3 (HO.out.2.2.step (Nat.le_refl _) k3))
        clear h3 k3
        simp only [Act.put, List.setIfInBounds_toArray, List.set_cons_zero, List.set_cons_succ]
        go_wp2
        go_roundw
        case rel =>
          refine ⟨i + 1, i + 1, by go_num, by go_num, by omega, by omega, _, H3.out.1, by simp; omega, ?_, H3.out.2, fun k hk h1 h2 => by omega⟩
          rw [HO.out.2.1]
          conv => lhs; rw [HX.out.2]
          rw [pcs_hit HX.out.1, List.append_assoc]; rfl
        case measure => simp [intOf]; omega
      · have hd' : ((s[i].toNat : Int) == (c.toNat : Int)) = false := by
          rw [u8z]
          simpa using hd
        have HN : Hid (∃ xs, OwnS wb w.heap.size u5 xs ∧ xs.length ≤ i + 1 ∧ pcs c s.data.toList = xs ++ pcs c (s.data.toList.drop f) ∧ Up w wb ∧ ∀ k (hk : k < s.data.toList.length), f ≤ k → k < i + 1 → s.data.toList[k] ≠ c) := by
          obtain ⟨xs, o1, o2, o3, o4, o5⟩ := hI.out
          refine ⟨xs, o1, by omega, o3, o4, fun k hk h1 h2 => ?_⟩
          by_cases e : k = i
          · subst e; rw [← sget' s k hlt]; exact hd
          · exact o5 k hk h1 (by omega)
        clear hI hd
        go_wp2
        go_roundw
        case rel => exact ⟨f, i + 1, rfl, by go_num, by omega, by omega, HN.out⟩
        case measure => simp [intOf]; omega
    · obtain rfl : i = s.size := by omega
      have hfl' : (f : Int) ≤ (s.size : Int) := by omega
      obtain ⟨xs, o1, o2, o3, o4, o5⟩ := hI.out
      have hno : c ∉ s.data.toList.drop f := by
        have := seg_no (L := s.data.toList) hf (by rw [← HS.out]; exact Nat.le_refl _) o5
        rwa [List.take_of_length_le (by rw [List.length_drop, ← HS.out]; exact Nat.le_refl _)] at this
      have HE := Hid.of (pcs_miss hno)
      have HO := Hid.of (And.intro o1 (And.intro o3 o4))
      have hext : (s.data.toList.drop f).take (s.size - f) = s.data.toList.drop f := List.take_of_length_le (by rw [List.length_drop, ← HS.out]; exact Nat.le_refl _)
      clear o1 o3 o4 o5 hI hno
      go_wp2_with (with_reducible show wpList _ _ _ ({ dst := _, op := Op.call { callee := Callee.builtin Builtin.append, args := _, argTypes := _ }, type := _, pos := _, after := _, guard := _ } :: _) _ _; refine Shut.out ?_)
      show wpList _ _ _ _ _ _
      simp only [ext_str, hext]
      refine wpList_appS rfl _ _ rfl w.heap.size _ xs (s.data.toList.drop f) rfl (by exact HO.out.1) 1 rfl (by omega) HO.out.2.2.size ?_
      intro v' w3 h3 k3
      have H3 := Hid.of (And.intro h3 (HO.out.2.2.step (Nat.le_refl _) k3))
      clear h3 k3
      simp only [Act.put, List.setIfInBounds_toArray, List.set_cons_zero, List.set_cons_succ]
      go_wp2
      go_ret
      rw [HO.out.2.1, HE.out]
      exact ⟨_, rfl, H3.out.1, H3.out.2⟩
set_option maxRecDepth 100000 in
theorem ahead_walk (s : ByteArray) (c : UInt8) (hs : s.size ≤ 1048576) (w : World) : Calls Tryz.prog 117 #[.string s, .int .u8 (c.toNat : Int)] w fun e w' => e = .returned (.string ⟨(ahd c s.data.toList).toArray⟩) ∧ Up w w' := by
  have HP := Hid.of (Pieces_walk s c hs w)
  have HA := Hid.of (ahd_pcs c s.data.toList)
  generalize pcs c s.data.toList = ps at *
  clear hs
  go_enter Tryz.func117, Tryz.ntmps117
  go_wp2_with fail
  refine HP.out.mono ?_
  rintro e w1 ⟨v, rfl, h1, u1⟩
  have hS := h1.sl
  obtain ⟨a, n, rfl⟩ := hS.len
  cases ps with
  | nil => cases HA.out
  | cons y ys =>
    obtain ⟨b, off, e1, hc⟩ := hS.get (i := 0) (by simp)
    subst e1
    have hy : y = ahd c s.data.toList := Option.some.inj HA.out
    simp only [List.getElem_cons_zero, Nat.add_zero] at hc
    rw [hy] at hc
    have H1 := Hid.of u1
    have hlz : (0 : Int) < ((y :: ys).length : Int) := by rw [List.length_cons]; omega
    generalize (y :: ys).length = m at *
    obtain ⟨q, hq⟩ : ∃ q : ByteArray, ⟨(ahd c s.data.toList).toArray⟩ = q := ⟨_, rfl⟩
    rw [hq] at hc
    have HQ := Hid.of hq
    clear u1 h1 hS hy HA HP hq
    dsimp only
    go_wp2
    go_ret
    rw [HQ.out]
    exact ⟨rfl, H1.out⟩
theorem sfx_drop (p l : List UInt8) : sfx p l = (decide (p.length ≤ l.length) && (l.drop (l.length - p.length) == p)) := by
  unfold sfx
  rw [Bool.eq_iff_iff, List.isSuffixOf_iff_suffix]
  simp only [Bool.and_eq_true, decide_eq_true_eq, beq_iff_eq]
  constructor
  · intro h
    exact ⟨h.length_le, (List.suffix_iff_eq_drop.1 h).symm⟩
  · rintro ⟨_, h⟩
    rw [← h]
    exact List.drop_suffix _ _
set_option maxRecDepth 100000 in
theorem ends_walk (s : ByteArray) (hs : s.size ≤ 1048576) (w : World) : Calls Tryz.prog 116 #[.string s, .string ⟨#[43, 105, 110, 99, 111, 109, 112, 97, 116, 105, 98, 108, 101]⟩] w fun e w' => e = .returned (.bool (sfx INC s.data.toList)) ∧ Up w w' := by
  have HX := Hid.of (sfx_drop INC s.data.toList)
  rw [len_of] at HX
  by_cases h : 13 ≤ s.size
  · have hz : (13 : Int) ≤ (s.size : Int) := by omega
    have HE := Hid.of (show sfx INC s.data.toList = (s.data.toList.drop (s.size - 13) == INC) by rw [HX.out, show INC.length = 13 from rfl, decide_eq_true h]; rfl)
    have HL := Hid.of (show (s.data.toList.drop (s.size - 13)).take (s.size - (s.size - 13)) = s.data.toList.drop (s.size - 13) from List.take_of_length_le (by rw [List.length_drop, len_of]; omega))
    go_enter Tryz.func116, Tryz.ntmps116
    go_wp2
    go_ret
    rw [HE.out]
    exact ⟨by simp only [eq_str, ext_str, HL.out]; rfl, Up.refl _⟩
  · have hz : ¬ (13 : Int) ≤ (s.size : Int) := by omega
    have HE := Hid.of (show sfx INC s.data.toList = false by rw [HX.out, show INC.length = 13 from rfl, decide_eq_false h]; rfl)
    go_enter Tryz.func116, Tryz.ntmps116
    go_wp2
    go_ret
    rw [HE.out]
    exact ⟨rfl, Up.refl _⟩
end Go.Proofs.YtnciglpdjpckiaaGreatDoor
namespace Go.Proofs.YtnciglpdjpckiaaGreatDoor
open Go.RowKit Go.Shelf TextNum ModNum
set_option maxRecDepth 100000 in
set_option maxHeartbeats 2000000 in
theorem releases_walk (v1 v2 : Value) (xs ys : List (List UInt8)) (w : World) (h1 : SlS w v1 xs) (h2 : SlS w v2 ys) (hl1 : xs.length ≤ 1048576) (hl2 : ys.length ≤ 1048576)
    (hw1 : ∀ x ∈ xs, isWrd x = true ∧ x.length ≤ 1048576) (hw2 : ∀ x ∈ ys, isWrd x = true ∧ x.length ≤ 1048576) :
    Calls Tryz.prog 76 #[v1, v2] w fun e w' => e = .returned (.int .i64 (cmpWs xs ys)) ∧ Up w w' := by
  have HS1 := Hid.of h1
  have HS2 := Hid.of h2
  have HW1 := Hid.of hw1
  have HW2 := Hid.of hw2
  obtain ⟨a1, c1, rfl⟩ := h1.len
  obtain ⟨a2, c2, rfl⟩ := h2.len
  clear h1 h2 hw1 hw2
  by_cases hx0 : xs = []
  · subst hx0
    rcases Nat.eq_zero_or_pos ys.length with hy | hy
    · have HR := Hid.of (show cmpWs [] ys = 0 by rw [List.length_eq_zero_iff.1 hy]; rfl)
      have hyz : (ys.length : Int) = 0 := by omega
      go_enter Tryz.func76, Tryz.ntmps76
      go_wp2
      go_ret
      rw [HR.out]
      exact ⟨rfl, Up.refl _⟩
    · have HR := Hid.of (show cmpWs [] ys = 1 by
        unfold cmpWs
        rw [if_pos (.inl rfl)]
        simp only [cmpN, List.length_nil]
        rw [if_neg (by omega), if_pos hy])
      have hyz : (0 : Int) < (ys.length : Int) := by omega
      go_enter Tryz.func76, Tryz.ntmps76
      go_wp2
      go_ret
      rw [HR.out]
      exact ⟨rfl, Up.refl _⟩
  · have hx1 : 0 < xs.length := List.length_pos_iff.2 hx0
    have hx1z : (0 : Int) < (xs.length : Int) := by omega
    have hx1b : ((xs.length : Int) == 0) = false := by rw [beq_eq_false_iff_ne]; omega
    by_cases hy0 : ys = []
    · have HR := Hid.of (show cmpWs xs ys = -1 by
        unfold cmpWs
        rw [if_pos (.inr hy0)]
        simp only [cmpN, hy0, List.length_nil]
        rw [if_pos hx1])
      have hyz : (ys.length : Int) = 0 := by rw [hy0]; rfl
      clear hy0 hx0
      go_enter Tryz.func76, Tryz.ntmps76
      go_wp2
      go_ret
      rw [HR.out]
      exact ⟨rfl, Up.refl _⟩
    · have hy1 : 0 < ys.length := List.length_pos_iff.2 hy0
      have hy1b : ((ys.length : Int) == 0) = false := by rw [beq_eq_false_iff_ne]; omega
      have HR := Hid.of (show cmpWs xs ys = cmpL cmpW xs ys by
        unfold cmpWs
        rw [if_neg (by rintro (h | h); exact hx0 h; exact hy0 h)])
      clear hx0 hy0
      go_enter Tryz.func76, Tryz.ntmps76
      go_wp2
      go_loopw [5, 6] (fun v5 _ wr => ∃ i : Nat, v5 = .int .i64 (i : Int) ∧ i ≤ xs.length ∧ Hid (i ≤ ys.length ∧ cmpL cmpW xs ys = cmpL cmpW (xs.drop i) (ys.drop i) ∧ Up w wr)) (fun v5 _ _ => xs.length - (intOf v5).toNat)
      case atStart => exact ⟨0, rfl, by omega, Nat.zero_le _, rfl, Up.refl _⟩
      case round =>
        obtain ⟨i, rfl, hi, hI⟩ := hrel
        by_cases hlt : i < xs.length
        · have hltz : (i : Int) < (xs.length : Int) := by omega
          obtain ⟨b1, o1, rfl, hc1⟩ := (HS1.out.up hI.out.2.2).get hlt
          by_cases hlt2 : i < ys.length
          · have hlt2y : (i : Int) < (ys.length : Int) := by omega
            obtain ⟨b2, o2, rfl, hc2⟩ := (HS2.out.up hI.out.2.2).get hlt2
            have HW := fun w' => Hid.of (words_walk ⟨xs[i].toArray⟩ ⟨ys[i].toArray⟩ (by rw [size_str]; exact (HW1.out _ (List.getElem_mem hlt)).2) (by rw [size_str]; exact (HW2.out _ (List.getElem_mem hlt2)).2) (HW1.out _ (List.getElem_mem hlt)).1 (HW2.out _ (List.getElem_mem hlt2)).1 w')
            have HE := Hid.of (show cmpL cmpW xs ys = if cmpW xs[i] ys[i] = 0 then cmpL cmpW (xs.drop (i + 1)) (ys.drop (i + 1)) else cmpW xs[i] ys[i] by
              rw [hI.out.2.1, List.drop_eq_getElem_cons hlt, List.drop_eq_getElem_cons hlt2]; rfl)
            simp only at HW
            generalize xs[i] = x at *
            generalize ys[i] = y at *
            by_cases hz : cmpW x y = 0
            · rw [hz] at HW
              have HE2 := Hid.of (HE.out.trans (if_pos hz))
              clear hz
              go_wp2
              go_region_with (go_at_call 123; refine (HW _).out.mono ?_; rintro e w1 ⟨rfl, u1⟩; have H1 := Hid.of (Up.trans (by first | exact hI.out.2.2.drew | exact hI.out.2.2) u1); clear u1)
              all_goals go_wp2
              all_goals go_roundw
              all_goals first | exact ⟨i + 1, by go_num, by omega, hlt2, HE2.out, H1.out⟩ | (simp [intOf]; omega)
            · have HE2 := Hid.of (HE.out.trans (if_neg hz))
              have hzz : (cmpW x y != 0) = true := by rw [bne_iff_ne]; exact hz
              generalize cmpW x y = cw at *
              clear hz
              go_wp2
              go_region_with (go_at_call 123; refine (HW _).out.mono ?_; rintro e w1 ⟨rfl, u1⟩; have H1 := Hid.of (Up.trans (by first | exact hI.out.2.2.drew | exact hI.out.2.2) u1); clear u1)
              all_goals go_wp2
              all_goals go_ret
              all_goals rw [HR.out, HE2.out]
              all_goals exact ⟨rfl, H1.out⟩
          · have hlt2z : ¬ (i : Int) < (ys.length : Int) := by omega
            have h3 : ¬ (xs.length : Int) < (ys.length : Int) := by omega
            have h4 : (ys.length : Int) < (xs.length : Int) := by have := hI.out.1; omega
            have HE := Hid.of (show cmpL cmpW xs ys = 1 by
              rw [hI.out.2.1, List.drop_eq_getElem_cons hlt, List.drop_eq_nil_of_le (show ys.length ≤ i by omega)]; rfl)
            go_wp2
            go_ret
            rw [HR.out, HE.out]
            exact ⟨rfl, hI.out.2.2⟩
        · have hltz : ¬ (i : Int) < (xs.length : Int) := by omega
          by_cases hl : xs.length < ys.length
          · have hlz : (xs.length : Int) < (ys.length : Int) := by omega
            have HE := Hid.of (show cmpL cmpW xs ys = -1 by
              rw [hI.out.2.1, List.drop_eq_nil_of_le (show xs.length ≤ i by omega), List.drop_eq_getElem_cons (show i < ys.length by omega)]; rfl)
            go_wp2
            go_ret
            rw [HR.out, HE.out]
            exact ⟨rfl, hI.out.2.2⟩
          · have hlz : ¬ (xs.length : Int) < (ys.length : Int) := by omega
            have h4 : ¬ (ys.length : Int) < (xs.length : Int) := by have := hI.out.1; omega
            have HE := Hid.of (show cmpL cmpW xs ys = 0 by
              rw [hI.out.2.1, List.drop_eq_nil_of_le (show xs.length ≤ i by omega), List.drop_eq_nil_of_le (show ys.length ≤ i by omega)]; rfl)
            go_wp2
            go_ret
            rw [HR.out, HE.out]
            exact ⟨rfl, hI.out.2.2⟩
end Go.Proofs.YtnciglpdjpckiaaGreatDoor
namespace Go.Proofs.YtnciglpdjpckiaaGreatDoor
open Go.RowKit Go.Shelf TextNum ModNum
/-- what the reference's Split answers -/
def SR (l : List UInt8) (w : World) (e : Ending) (w' : World) : Prop := ∃ n0 n1 n2 v inc, e = .returned (.tuple #[.agg (pc5 n0 n1 n2 v inc), .bool (ver l).isSome]) ∧ (∀ q, ver l = some q → q.n = [n0, n1, n2] ∧ SlS w' v q.ws ∧ q.inc = inc) ∧ (∃ a n c, v = .slice a n c) ∧ Up w w'
theorem SR.no {l : List UInt8} {w w' : World} (h : ver l = none) (n0 n1 n2 : List UInt8) (a : Option Addr) (n c : Nat) (inc : Bool) (u : Up w w') : SR l w (.returned (.tuple #[.agg (pc5 n0 n1 n2 (.slice a n c) inc), .bool false])) w' :=
  ⟨n0, n1, n2, _, inc, by rw [h]; rfl, fun q hq => (by rw [h] at hq; cases hq), ⟨a, n, c, rfl⟩, u⟩
theorem z5lit : (#[Value.string ⟨#[]⟩, Value.string ⟨#[]⟩, Value.string ⟨#[]⟩, Value.slice none 0 0, Value.bool false] : Array Value) = z5.toArray := rfl
theorem one5 (a b c : ByteArray) (d : Option Addr) (n m : Nat) (o : Bool) : ([.string a, .string b, .string c, .slice d n m, .bool o] : List Value).toArray.all (·.oneCell') = true := by
  rw [Array.all_eq_true_iff_forall_mem]
  intro v hv
  simp at hv
  rcases hv with rfl | rfl | rfl | rfl | rfl <;> rfl
theorem grown_at (w : World) (b i : Nat) (v : Value) : w.grownBy (w.setCell ⟨b, i, none⟩ v) (some b) := grown_set w ⟨b, i, none⟩ v
theorem set5q (w : World) (b : Nat) (v0 v1 v2 v3 v4 : Value) : w.grownBy (((((w.setCell ⟨b, 0, none⟩ v0).setCell ⟨b, 1, none⟩ v1).setCell ⟨b, 2, none⟩ v2).setCell ⟨b, 3, none⟩ v3).setCell ⟨b, 4, none⟩ v4) (some b) :=
  grown_trans (grown_trans (grown_trans (grown_trans (grown_at w b 0 _) (grown_at _ b 1 _)) (grown_at _ b 2 _)) (grown_at _ b 3 _)) (grown_at _ b 4 _)
/-- three texts in their cells -/
def HDs (w : World) (g o : Nat) (m0 m1 m2 : ByteArray) : Prop := w.cell? ⟨g, o, none⟩ = some (.string m0) ∧ w.cell? ⟨g, o + 1, none⟩ = some (.string m1) ∧ w.cell? ⟨g, o + 2, none⟩ = some (.string m2)
theorem HDs.up {w w' : World} {g o : Nat} {m0 m1 m2 : ByteArray} (h : HDs w g o m0 m1 m2) (u : Up w w') : HDs w' g o m0 m1 m2 := ⟨u.cell h.1, u.cell h.2.1, u.cell h.2.2⟩
theorem HDs.set {w : World} {g o b i : Nat} {v : Value} {m0 m1 m2 : ByteArray} (h : HDs w g o m0 m1 m2) (hne : g ≠ b) : HDs (w.setCell ⟨b, i, none⟩ v) g o m0 m1 m2 := by
  have hg := grown_at w b i v
  have hk : ∀ j u, w.cell? ⟨g, j, none⟩ = some u → (w.setCell ⟨b, i, none⟩ v).cell? ⟨g, j, none⟩ = some u := fun j u hu => (hg.cell hu (by intro h; injection h with h; exact hne h))
  exact ⟨hk _ _ h.1, hk _ _ h.2.1, hk _ _ h.2.2⟩
theorem isLow_eq (s : ByteArray) : isLow s.data.toList = ((s.toList == [48]) || (s.toList == [49])) := by
  rw [Go.Lib.toList_data]; rfl
theorem ahd_le (c : UInt8) (l : List UInt8) : (ahd c l).length ≤ l.length := (List.takeWhile_sublist _).length_le
theorem dash_le {q k : ByteArray} {vc : List UInt8} (hq : q.data.toList = vc) (hk : k.data.toList = ahd 45 vc) : k.size ≤ q.size := by
  have := ahd_le 45 vc
  rw [← hk, ← hq, len_of, len_of] at this
  exact this
theorem pcs_cnt (c : UInt8) : ∀ l : List UInt8, (pcs c l).length ≤ l.length + 1
  | [] => by simp [pcs]
  | x :: r => by
    have ih := pcs_cnt c r
    unfold pcs
    split
    · simp; omega
    · split
      · simp
      · rename_i p ps h
        rw [h] at ih
        simp at ih ⊢
        omega
theorem dash_facts {q k : ByteArray} {vc : List UInt8} (hq : q.data.toList = vc) (hk : k.data.toList = ahd 45 vc) (hqs : q.size ≤ 128) :
    ((45 : UInt8) ∈ vc → k.size < q.size) ∧ ((45 : UInt8) ∈ vc → q.data.toList.drop (k.size + 1) = bhd 45 vc) ∧ (¬ (45 : UInt8) ∈ vc → q.size = k.size) ∧ ((45 : UInt8) ∈ vc → (pcs 46 (bhd 45 vc)).length ≤ 1048576 ∧ ∀ x ∈ pcs 46 (bhd 45 vc), x.length ≤ 1048576) := by
  have lk : k.size = (ahd 45 vc).length := by rw [← hk, len_of]
  have lq : q.size = vc.length := by rw [← hq, len_of]
  refine ⟨fun h => ?_, fun h => ?_, fun h => ?_, fun h => ?_⟩
  · have := congrArg List.length (cut_eq h)
    simp only [List.length_append, List.length_cons] at this
    omega
  · rw [hq, lk, congrArg (List.drop ((ahd 45 vc).length + 1)) (cut_eq h)]
    rw [List.drop_append, List.drop_of_length_le (by omega), show (ahd 45 vc).length + 1 - (ahd 45 vc).length = 1 by omega]
    rfl
  · rw [lk, lq, ahd_miss h]
  · have h1 : (bhd 45 vc).length ≤ 128 := by
      have := congrArg List.length (cut_eq h)
      simp only [List.length_append, List.length_cons] at this
      omega
    refine ⟨by have := pcs_cnt 46 (bhd 45 vc); omega, fun x hx => ?_⟩
    have := pcs_sub (c := 46) hx
    omega
set_option maxRecDepth 100000 in
set_option maxHeartbeats 8000000 in
theorem Split_bad (s : ByteArray) (w : World) (hbad : 128 < s.size ∨ s.data.toList.head? ≠ some 118) : Calls Tryz.prog 66 #[.string s] w (SR s.data.toList w) := by
  have HA0 : Hid (At ((w.alloc (.cells z5.toArray 111)).alloc (.cells z5.toArray 111)) w.heap.size 111 z5) := At.up (at_new w 111 z5) ((Up.refl _).alloc _)
  have HP0 : Hid (At ((w.alloc (.cells z5.toArray 111)).alloc (.cells z5.toArray 111)) (w.heap.size + 1) 111 z5) := by
    have := at_new (w.alloc (.cells z5.toArray 111)) 111 z5
    rw [alloc_size] at this
    exact this
  have HU0 := Hid.of (((Up.refl w).alloc (.cells z5.toArray 111)).alloc (.cells z5.toArray 111))
  have HV := Hid.of (show ver s.data.toList = none by
    unfold ver
    rw [if_pos (by rcases hbad with h | h; exact .inr (by rw [len_of]; exact h); exact .inl h)])
  have hb2 : (128 < s.size) ∨ (¬ 128 < s.size ∧ s.toList.isEmpty = true) ∨ (¬ 128 < s.size ∧ s.toList.isEmpty = false ∧ ∃ h : 0 < s.size, s[0].toNat ≠ 118) := by
    by_cases h1 : 128 < s.size
    · exact .inl h1
    · cases h2 : s.toList.isEmpty with
      | true => exact .inr (.inl ⟨h1, rfl⟩)
      | false =>
        have h0 : 0 < s.size := by
          rcases Nat.eq_zero_or_pos s.size with h | h
          · rw [szero h, show (⟨#[]⟩ : ByteArray) = ⟨([] : List UInt8).toArray⟩ from rfl, emp_eq] at h2; cases h2
          · exact h
        refine .inr (.inr ⟨h1, rfl, h0, fun h => ?_⟩)
        rcases hbad with h3 | h3
        · exact h1 h3
        · rw [head_of h0] at h3
          exact h3 (congrArg some (UInt8.toNat_inj.1 h))
  clear hbad
  rcases hb2 with h | ⟨h, he⟩ | ⟨h, he, h0, h1⟩
  · have hlz : (128 : Int) < (s.size : Int) := by omega
    clear h
    go_enter Tryz.func66, Tryz.ntmps66
    go_wp2_with (with_reducible show wpList _ _ _ ({ dst := _, op := Op.load 111 _, type := _, pos := _, after := _, guard := _ } :: _) _ _; refine Shut.out ?_)
    show wpList _ _ _ _ _ _
    rw [z5lit]
    generalize (w.alloc (.cells z5.toArray 111)).alloc (.cells z5.toArray 111) = W0 at *
    refine wpList_load_mid rfl _ _ rfl (w.heap.size + 1) 0 rfl z5 _ HP0.out.range Tryz.underlying111 rfl (by kernel_rfl) ?_
    simp only [Act.put, List.setIfInBounds_toArray, List.set_cons_zero, List.set_cons_succ]
    go_wp2_with (with_reducible show wpList _ _ _ ({ dst := _, op := Op.store 111 _ _, type := _, pos := _, after := _, guard := _ } :: _) _ _; refine Shut.out ?_)
    show wpList _ _ _ _ _ _
    refine wpList_store_at rfl _ _ _ rfl w.heap.size HA0.out z5 rfl rfl rfl (by kernel_rfl) (one5 _ _ _ _ _ _ _) fun wz hAz hgz => ?_
    have HAz := Hid.of hAz
    have HUz := Hid.of (HU0.out.by hgz (fun g hg => by injection hg with hg; omega))
    clear hAz hgz
    simp only [Act.put]
    go_wp2
    refine bodyPost_ret (result_cell_tmp Tryz.results66 _ _ w.heap.size z5 _ rfl rfl HAz.out.range Tryz.underlying111 rfl (by kernel_rfl)) rfl ?_
    exact SR.no HV.out [] [] [] none 0 0 false HUz.out
  · have hlz : ¬ (128 : Int) < (s.size : Int) := by omega
    clear h
    go_enter Tryz.func66, Tryz.ntmps66
    go_wp2_with (with_reducible show wpList _ _ _ ({ dst := _, op := Op.load 111 _, type := _, pos := _, after := _, guard := _ } :: _) _ _; refine Shut.out ?_)
    show wpList _ _ _ _ _ _
    rw [z5lit]
    generalize (w.alloc (.cells z5.toArray 111)).alloc (.cells z5.toArray 111) = W0 at *
    refine wpList_load_mid rfl _ _ rfl (w.heap.size + 1) 0 rfl z5 _ HP0.out.range Tryz.underlying111 rfl (by kernel_rfl) ?_
    simp only [Act.put, List.setIfInBounds_toArray, List.set_cons_zero, List.set_cons_succ]
    go_wp2_with (with_reducible show wpList _ _ _ ({ dst := _, op := Op.store 111 _ _, type := _, pos := _, after := _, guard := _ } :: _) _ _; refine Shut.out ?_)
    show wpList _ _ _ _ _ _
    refine wpList_store_at rfl _ _ _ rfl w.heap.size HA0.out z5 rfl rfl rfl (by kernel_rfl) (one5 _ _ _ _ _ _ _) fun wz hAz hgz => ?_
    have HAz := Hid.of hAz
    have HUz := Hid.of (HU0.out.by hgz (fun g hg => by injection hg with hg; omega))
    clear hAz hgz
    simp only [Act.put]
    go_wp2
    refine bodyPost_ret (result_cell_tmp Tryz.results66 _ _ w.heap.size z5 _ rfl rfl HAz.out.range Tryz.underlying111 rfl (by kernel_rfl)) rfl ?_
    exact SR.no HV.out [] [] [] none 0 0 false HUz.out
  · have hlz : ¬ (128 : Int) < (s.size : Int) := by omega
    have h0z : (0 : Int) < (s.size : Int) := by omega
    have h1z : ((s[0].toNat : Int) != 118) = true := by rw [bne_iff_ne]; omega
    clear h h1
    go_enter Tryz.func66, Tryz.ntmps66
    go_wp2_with (with_reducible show wpList _ _ _ ({ dst := _, op := Op.load 111 _, type := _, pos := _, after := _, guard := _ } :: _) _ _; refine Shut.out ?_)
    show wpList _ _ _ _ _ _
    rw [z5lit]
    generalize (w.alloc (.cells z5.toArray 111)).alloc (.cells z5.toArray 111) = W0 at *
    refine wpList_load_mid rfl _ _ rfl (w.heap.size + 1) 0 rfl z5 _ HP0.out.range Tryz.underlying111 rfl (by kernel_rfl) ?_
    simp only [Act.put, List.setIfInBounds_toArray, List.set_cons_zero, List.set_cons_succ]
    go_wp2_with (with_reducible show wpList _ _ _ ({ dst := _, op := Op.store 111 _ _, type := _, pos := _, after := _, guard := _ } :: _) _ _; refine Shut.out ?_)
    show wpList _ _ _ _ _ _
    refine wpList_store_at rfl _ _ _ rfl w.heap.size HA0.out z5 rfl rfl rfl (by kernel_rfl) (one5 _ _ _ _ _ _ _) fun wz hAz hgz => ?_
    have HAz := Hid.of hAz
    have HUz := Hid.of (HU0.out.by hgz (fun g hg => by injection hg with hg; omega))
    clear hAz hgz
    simp only [Act.put]
    go_wp2
    refine bodyPost_ret (result_cell_tmp Tryz.results66 _ _ w.heap.size z5 _ rfl rfl HAz.out.range Tryz.underlying111 rfl (by kernel_rfl)) rfl ?_
    exact SR.no HV.out [] [] [] none 0 0 false HUz.out
end Go.Proofs.YtnciglpdjpckiaaGreatDoor
