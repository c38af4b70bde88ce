import Derived.Test.YtfopojnljfpmkaaGreatDoorGa
import Derived.Test.YtfopojnljfpmkaaGreatDoorK6
import Derived.Test.YtfopojnljfpmkaaGreatDoorHg
import Derived.Test.YtfopojnljfpmkaaGreatDoorMj
namespace Go.Proofs.YtfopojnljfpmkaaGreatDoor
open Go.RowKit Go.Shelf TextNum ModNum
theorem lwr_cap {c : UInt8} (h : cap c = true) : lwr c = c + 32 ∧ (c + 32).toNat = c.toNat + 32 ∧ c.toNat + 32 < 256 := by
  simp only [cap, Bool.and_eq_true, decide_eq_true_eq] at h
  refine ⟨if_pos h, ?_, by omega⟩
  rw [UInt8.toNat_add]
  show (c.toNat + 32) % 256 = _
  omega
theorem lwr_not {c : UInt8} (h : cap c = false) : lwr c = c := by
  refine if_neg (fun h2 => ?_)
  rw [show cap c = true by simp [cap, h2.1, h2.2]] at h
  cases h
theorem map_take {s : ByteArray} {i : Nat} (h : i < s.size) (f : UInt8 → UInt8) : (s.data.toList.take (i + 1)).map f = (s.data.toList.take i).map f ++ [f s[i]] := by
  rw [take_succ h, List.map_append]
  rfl
set_option maxRecDepth 100000 in
theorem below_walk (s : ByteArray) (hs : s.size ≤ 1048576) (w : World) : Calls Tryz.prog 149 #[.string s] w fun e w' => e = .returned (.string ⟨(s.data.toList.map lwr).toArray⟩) ∧ Up w w' := by
  have HS := Hid.of (Go.Lib.size_eq s)
  go_enter Tryz.func149, Tryz.ntmps149
  go_wp2
  go_loopw [3, 4] (fun v3 v4 wr => ∃ i : Nat, v4 = .int .i64 (i : Int) ∧ i ≤ s.size ∧ Hid (Own wr w.heap.size v3 ((s.data.toList.take i).map lwr) ∧ Up w wr)) (fun _ v4 _ => s.size - (intOf v4).toNat)
  case atStart => exact ⟨0, rfl, by omega, own_nil _ _, Up.refl _⟩
  case round =>
    obtain ⟨i, rfl, hi, hI⟩ := hrel
    by_cases hlt : i < s.size
    · have hlt' : (i : Int) < (s.size : Int) := by omega
      have HT := Hid.of (map_take hlt lwr)
      have HL := Hid.of (show ((s.data.toList.take i).map lwr).length + 1 ≤ 140737488355328 by rw [List.length_map, List.length_take]; omega)
      have HC := Hid.of (capital_walk s[i] wr)
      generalize hxx : s[i] = x at *
      go_wp2_with fail
      refine HC.out.mono ?_
      rintro e w1 ⟨rfl, u1⟩
      have H1 := Hid.of (And.intro (hI.out.1.below u1) (hI.out.2.trans u1))
      clear u1 HC hI
      dsimp only
      cases hx : cap x with
      | false =>
        rw [lwr_not hx] at HT
        clear hx
        go_wp2_with (with_reducible show wpList _ _ _ ({ dst := _, op := Op.call { callee := Callee.builtin Builtin.append, args := _, argTypes := _ }, type := _, pos := _, after := _, guard := _ } :: _) _ _; refine Shut.out ?_)
        show wpList _ _ _ _ _ _
        refine wpList_app1 rfl _ _ rfl w.heap.size _ ((s.data.toList.take i).map lwr) [x] rfl (by exact H1.out.1) 1 rfl (by have := HL.out; simpa using this) H1.out.2.size ?_
        intro v' w3 h3 k3
        have H3 := Hid.of (And.intro h3 (H1.out.2.step (Nat.le_refl _) k3))
        clear h3 k3
        simp only [Act.put, List.setIfInBounds_toArray, List.set_cons_zero, List.set_cons_succ]
        go_wp2
        go_roundw
        case rel => exact ⟨i + 1, by go_num, by omega, by rw [HT.out]; exact H3.out.1, H3.out.2⟩
        case measure => simp [intOf]; omega
      | true =>
        obtain ⟨e1, e2, e3⟩ := lwr_cap hx
        rw [e1] at HT
        have hwr : IntKind.u8.wrap ((x.toNat : Int) + 32) = (x.toNat : Int) + 32 := by simp only [IntKind.wrap, IntKind.signed, IntKind.bits]; simp; omega
        obtain ⟨y, hy⟩ : ∃ y, x + 32 = y := ⟨_, rfl⟩
        rw [hy] at HT e2
        have hyz : (x.toNat : Int) + 32 = (y.toNat : Int) := by omega
        rw [hyz] at hwr
        clear hx e1 e2 e3 hy
        go_wp2_with (with_reducible show wpList _ _ _ ({ dst := _, op := Op.call { callee := Callee.builtin Builtin.append, args := _, argTypes := _ }, type := _, pos := _, after := _, guard := _ } :: _) _ _; refine Shut.out ?_)
        show wpList _ _ _ _ _ _
        refine wpList_app1 rfl _ _ rfl w.heap.size _ ((s.data.toList.take i).map lwr) [y] rfl (by exact H1.out.1) 1 rfl (by have := HL.out; simpa using this) H1.out.2.size ?_
        intro v' w3 h3 k3
        have H3 := Hid.of (And.intro h3 (H1.out.2.step (Nat.le_refl _) k3))
        clear h3 k3
        simp only [Act.put, List.setIfInBounds_toArray, List.set_cons_zero, List.set_cons_succ]
        go_wp2
        go_roundw
        case rel => exact ⟨i + 1, by go_num, by omega, by rw [HT.out]; exact H3.out.1, H3.out.2⟩
        case measure => simp [intOf]; omega
    · have hlt' : ¬ (i : Int) < (s.size : Int) := by omega
      have HF := Hid.of (show s.data.toList.take i = s.data.toList from List.take_of_length_le (by rw [len_of]; omega))
      have hcv := conv_sl (Own.sl hI.out.1)
      rw [HF.out] at hcv
      have HU := Hid.of hI.out.2
      obtain ⟨a3, c3, ev⟩ := hI.out.1.len
      generalize ((s.data.toList.take i).map lwr).length = m at ev
      subst ev
      clear hI
      go_wp2
      go_ret
      exact ⟨rfl, HU.out⟩
set_option maxRecDepth 100000 in
theorem ends_unst (s : ByteArray) (hs : s.size ≤ 1048576) (w : World) : Calls Tryz.prog 116 #[.string s, .string ⟨#[45, 117, 110, 115, 116, 97, 98, 108, 101]⟩] w fun e w' => e = .returned (.bool (sfx UNST s.data.toList)) ∧ Up w w' := by
  have HX := Hid.of (sfx_drop UNST s.data.toList)
  rw [len_of] at HX
  by_cases h : 9 ≤ s.size
  · have hz : (9 : Int) ≤ (s.size : Int) := by omega
    have HE := Hid.of (show sfx UNST s.data.toList = (s.data.toList.drop (s.size - 9) == UNST) by rw [HX.out, show UNST.length = 9 from rfl, decide_eq_true h]; rfl)
    have HL := Hid.of (show (s.data.toList.drop (s.size - 9)).take (s.size - (s.size - 9)) = s.data.toList.drop (s.size - 9) from List.take_of_length_le (by rw [List.length_drop, len_of]; omega))
    go_enter Tryz.func116, Tryz.ntmps116
    go_wp2
    go_ret
    rw [HE.out]
    exact ⟨by simp only [eq_str, ext_str, HL.out]; rfl, Up.refl _⟩
  · have hz : ¬ (9 : Int) ≤ (s.size : Int) := by omega
    have HE := Hid.of (show sfx UNST s.data.toList = false by rw [HX.out, show UNST.length = 9 from rfl, decide_eq_false h]; rfl)
    go_enter Tryz.func116, Tryz.ntmps116
    go_wp2
    go_ret
    rw [HE.out]
    exact ⟨rfl, Up.refl _⟩
theorem pfx_take (p l : List UInt8) : pfx p l = (decide (p.length ≤ l.length) && (l.take p.length == p)) := by
  unfold pfx
  rw [Bool.eq_iff_iff, List.isPrefixOf_iff_prefix]
  simp only [Bool.and_eq_true, decide_eq_true_eq, beq_iff_eq]
  constructor
  · intro h
    exact ⟨h.length_le, (List.prefix_iff_eq_take.1 h).symm⟩
  · rintro ⟨_, h⟩
    rw [← h]
    exact List.take_prefix _ _
set_option maxRecDepth 100000 in
theorem begins_h1 (s : ByteArray) (hs : s.size ≤ 1048576) (w : World) : Calls Tryz.prog 55 #[.string s, .string ⟨#[104, 49, 58]⟩] w fun e w' => e = .returned (.bool (pfx [104, 49, 58] s.data.toList)) ∧ Up w w' := by
  have HX := Hid.of (pfx_take [104, 49, 58] s.data.toList)
  rw [len_of] at HX
  by_cases h : 3 ≤ s.size
  · have hz : (3 : Int) ≤ (s.size : Int) := by omega
    have HE := Hid.of (show pfx [104, 49, 58] s.data.toList = (s.data.toList.take 3 == [104, 49, 58]) by rw [HX.out, show ([104, 49, 58] : List UInt8).length = 3 from rfl, decide_eq_true h]; rfl)
    go_enter Tryz.func55, Tryz.ntmps55
    go_wp2
    go_ret
    rw [HE.out]
    exact ⟨by simp only [eq_str, ext_str, List.drop_zero, Nat.sub_zero]; rfl, Up.refl _⟩
  · have hz : ¬ (3 : Int) ≤ (s.size : Int) := by omega
    have HE := Hid.of (show pfx [104, 49, 58] s.data.toList = false by rw [HX.out, show ([104, 49, 58] : List UInt8).length = 3 from rfl, decide_eq_false h]; rfl)
    go_enter Tryz.func55, Tryz.ntmps55
    go_wp2
    go_ret
    rw [HE.out]
    exact ⟨rfl, Up.refl _⟩
end Go.Proofs.YtfopojnljfpmkaaGreatDoor
namespace Go.Proofs.YtfopojnljfpmkaaGreatDoor
open Go.RowKit Go.Shelf TextNum ModNum
theorem mem_take {s : ByteArray} {i : Nat} (h : i < s.size) (c : UInt8) : (c ∈ s.data.toList.take (i + 1)) ↔ (c ∈ s.data.toList.take i ∨ s[i] = c) := by
  rw [take_succ h, List.mem_append, List.mem_singleton]
  exact ⟨fun h => h.imp id Eq.symm, fun h => h.imp id Eq.symm⟩
abbrev fck (c : UInt8) : Bool := !((decide (65 ≤ c.toNat) && decide (c.toNat ≤ 90)) || c == 95 || c == 126)
theorem all_take {s : ByteArray} {i : Nat} {f : UInt8 → Bool} (h : i < s.size) : (s.data.toList.take (i + 1)).all f = ((s.data.toList.take i).all f && f s[i]) := by
  rw [take_succ h, List.all_append]
  simp
theorem all_no {s : ByteArray} {i : Nat} {f : UInt8 → Bool} (h : i < s.size) (hf : f s[i] = false) : s.data.toList.all f = false := by
  rw [← List.take_append_drop (i + 1) s.data.toList, List.all_append, all_take h, hf]
  simp
theorem u8eq (x y : UInt8) : ((x.toNat : Int) == (y.toNat : Int)) = (x == y) := u8z
set_option maxRecDepth 100000 in
theorem first_walk (s : ByteArray) (hs : s.size ≤ 1048576) (h0 : 0 < s.size) (w : World) : Calls Tryz.prog 112 #[.string s] w fun e w' => e = .returned (.bool (rFst s.data.toList)) ∧ Up w w' := by
  have HH := Hid.of (head_of h0)
  have HR : Hid (rFst s.data.toList = (s.data.toList.all fck && decide (46 ∈ s.data.toList) && s.data.toList.head? != some 45)) := rfl
  go_enter Tryz.func112, Tryz.ntmps112
  go_wp2
  go_loopw [3, 4] (fun v3 v4 wr => ∃ d i : Nat, v3 = .int .i64 (d : Int) ∧ v4 = .int .i64 (i : Int) ∧ i ≤ s.size ∧ d ≤ i ∧ Hid ((s.data.toList.take i).all fck = true ∧ (0 < d ↔ 46 ∈ s.data.toList.take i) ∧ Up w wr)) (fun _ v4 _ => s.size - (intOf v4).toNat)
  case atStart => exact ⟨0, 0, rfl, rfl, by omega, by omega, rfl, by simp, Up.refl _⟩
  case round =>
    obtain ⟨d, i, rfl, rfl, hi, hd, hI⟩ := hrel
    by_cases hlt : i < s.size
    · have hlt' : (i : Int) < (s.size : Int) := by omega
      have HT := Hid.of (And.intro (all_take (f := fck) hlt) (And.intro (fun hk => all_no (f := fck) hlt hk) (mem_take hlt 46)))
      have HC := Hid.of (capital_walk s[i] wr)
      generalize hxx : s[i] = x at *
      have HF1 := Hid.of (show cap x = true → fck x = false from fun h => by show (!(cap x || x == 95 || x == 126)) = false; rw [h]; rfl)
      have HF2 := Hid.of (show cap x = false → x ≠ 95 → x ≠ 126 → fck x = true from fun h h1 h2 => by show (!(cap x || x == 95 || x == 126)) = true; rw [h]; simp [h1, h2])
      go_wp2_with fail
      refine HC.out.mono ?_
      rintro e w1 ⟨rfl, u1⟩
      have H1 := Hid.of (hI.out.2.2.trans u1)
      clear u1 HC
      dsimp only
      cases hx : cap x with
      | true =>
        have HN := Hid.of (HT.out.2.1 (HF1.out hx))
        clear hx HT
        go_wp2
        go_ret
        rw [HR.out, HN.out]
        exact ⟨rfl, H1.out⟩
      | false =>
        by_cases h95 : x = 95
        · subst h95
          have HN := Hid.of (HT.out.2.1 (by rfl))
          clear hx HT
          go_wp2
          go_ret
          rw [HR.out, HN.out]
          exact ⟨rfl, H1.out⟩
        · have z95 : ((x.toNat : Int) == 95) = false := by rw [show (95 : Int) = ((95 : UInt8).toNat : Int) from rfl, u8eq]; simpa using h95
          by_cases h126 : x = 126
          · subst h126
            have HN := Hid.of (HT.out.2.1 (by rfl))
            clear hx HT h95 z95
            go_wp2
            go_ret
            rw [HR.out, HN.out]
            exact ⟨rfl, H1.out⟩
          · have z126 : ((x.toNat : Int) == 126) = false := by rw [show (126 : Int) = ((126 : UInt8).toNat : Int) from rfl, u8eq]; simpa using h126
            have HY := Hid.of (show (s.data.toList.take (i + 1)).all fck = true by
              rw [HT.out.1, hI.out.1, HF2.out hx h95 h126]
              rfl)
            clear hx
            by_cases h46 : x = 46
            · subst h46
              have HM := Hid.of (HT.out.2.2.2 (.inr rfl))
              clear HT h95 h126 z95 z126
              go_wp2
              go_roundw
              case rel => exact ⟨d + 1, i + 1, by go_num, by go_num, by omega, by omega, HY.out, ⟨fun _ => HM.out, fun _ => by omega⟩, H1.out⟩
              case measure => simp [intOf]; omega
            · have z46 : ((x.toNat : Int) == 46) = false := by rw [show (46 : Int) = ((46 : UInt8).toNat : Int) from rfl, u8eq]; simpa using h46
              have HM := Hid.of (show (0 < d ↔ 46 ∈ s.data.toList.take (i + 1)) from hI.out.2.1.trans ⟨fun h => HT.out.2.2.2 (.inl h), fun h => (HT.out.2.2.1 h).resolve_right h46⟩)
              clear HT h95 h126 h46
              go_wp2
              go_roundw
              case rel => exact ⟨d, i + 1, rfl, by go_num, by omega, by omega, HY.out, HM.out, H1.out⟩
              case measure => simp [intOf]; omega
    · have hlt' : ¬ (i : Int) < (s.size : Int) := by omega
      have ht : s.data.toList.take i = s.data.toList := List.take_of_length_le (by rw [len_of]; omega)
      rw [ht] at hI
      have HA := Hid.of hI.out
      have h0z : (0 : Int) < (s.size : Int) := by omega
      clear ht hI
      by_cases h1 : 0 < d
      · have hz : (0 : Int) < (d : Int) := by omega
        have HE := Hid.of (show rFst s.data.toList = !(s[0] == 45) by
          rw [HR.out, HA.out.1, decide_eq_true (HA.out.2.1.1 h1), HH.out]
          show (true && true && !(some s[0] == some 45)) = _
          simp)
        have hb : ((s[0].toNat : Int) == 45) = (s[0] == 45) := by rw [show (45 : Int) = ((45 : UInt8).toNat : Int) from rfl, u8eq]
        clear h1
        go_wp2
        go_ret
        rw [HE.out]
        refine ⟨?_, HA.out.2.2⟩
        show Ending.returned (Value.bool (!((s[0].toNat : Int) == 45))) = _
        rw [hb]
      · have hz : ¬ (0 : Int) < (d : Int) := by omega
        have HE := Hid.of (show rFst s.data.toList = false by
          rw [HR.out, decide_eq_false (fun h => h1 (HA.out.2.1.2 h))]
          simp)
        clear h1
        go_wp2
        go_ret
        rw [HE.out]
        exact ⟨rfl, HA.out.2.2⟩
theorem kd20 (n : Nat) : (kd n &&& 20 ≠ 0) ↔ ((48 ≤ n ∧ n ≤ 57) ∨ n = 46) := by
  unfold kd
  (repeat' split) <;> simp <;> omega
set_option maxRecDepth 100000 in
theorem tailed_walk (s : ByteArray) (hs : s.size ≤ 1048576) (w : World) : Calls Tryz.prog 114 #[.string s] w fun e w' => e = .returned (.bool (tld s.data.toList)) ∧ Up w w' := by
  have HR : Hid (tld s.data.toList = (decide (2 ≤ s.data.toList.length) && s.data.toList.head? == some 118 && al 20 (s.data.toList.drop 1))) := rfl
  rw [len_of] at HR
  by_cases h2 : s.size < 2
  · have h2z : (s.size : Int) < 2 := by omega
    have HE := Hid.of (show tld s.data.toList = false by rw [HR.out, decide_eq_false (by omega)]; rfl)
    go_enter Tryz.func114, Tryz.ntmps114
    go_wp2
    go_ret
    rw [HE.out]
    exact ⟨rfl, Up.refl _⟩
  have h2z : ¬ (s.size : Int) < 2 := by omega
  have h0z : (0 : Int) < (s.size : Int) := by omega
  have hh := head_of (s := s) (by omega)
  by_cases h118 : s[0] = 118
  · have hb : ((s[0].toNat : Int) != 118) = false := by rw [h118]; rfl
    have HE := Hid.of (show tld s.data.toList = al 20 (s.data.toList.drop 1) by rw [HR.out, decide_eq_true (by omega), hh, h118]; rfl)
    clear hh h118
    go_enter Tryz.func114, Tryz.ntmps114
    go_wp2
    go_loopw [3] (fun v3 wr => ∃ i : Nat, v3 = .int .i64 (i : Int) ∧ 1 ≤ i ∧ i ≤ s.size ∧ Hid (al 20 ((s.data.toList.take i).drop 1) = true ∧ Up w wr)) (fun v3 _ => s.size - (intOf v3).toNat)
    case atStart => exact ⟨1, rfl, by omega, by omega, by rw [List.drop_of_length_le (by rw [List.length_take]; omega)]; rfl, Up.refl _⟩
    case round =>
      obtain ⟨i, rfl, h1, hi, hI⟩ := hrel
      by_cases hlt : i < s.size
      · have hlt' : (i : Int) < (s.size : Int) := by omega
        have HT := Hid.of (show al 20 ((s.data.toList.take (i + 1)).drop 1) = (al 20 ((s.data.toList.take i).drop 1) && decide (kd s[i].toNat &&& 20 ≠ 0)) by
          rw [take_succ hlt, List.drop_append_of_le_length (by rw [List.length_take, len_of]; omega), al_append]
          simp [al])
        have HX := Hid.of (show ¬ (kd s[i].toNat &&& 20 ≠ 0) → al 20 (s.data.toList.drop 1) = false from fun hk => by
          have e : s.data.toList.drop 1 = (s.data.toList.take (i + 1)).drop 1 ++ s.data.toList.drop (i + 1) := by
            rw [← List.drop_append_of_le_length (by rw [List.length_take, len_of]; omega), List.take_append_drop]
          rw [e, al_append, HT.out, decide_eq_false hk]
          simp)
        have HD := Hid.of (digit_walk s[i] wr)
        generalize hxx : s[i] = x at *
        have HK := Hid.of (show (kd x.toNat &&& 20 ≠ 0) ↔ (dgt x = true ∨ x = 46) by
          rw [kd20]
          simp only [dgt, Bool.and_eq_true, decide_eq_true_eq, ← UInt8.toNat_inj]
          exact Iff.rfl)
        go_wp2_with fail
        refine HD.out.mono ?_
        rintro e w1 ⟨rfl, u1⟩
        have H1 := Hid.of (hI.out.2.trans u1)
        clear u1 HD
        dsimp only
        cases hx : dgt x with
        | true =>
          have HF := Hid.of (show al 20 ((s.data.toList.take (i + 1)).drop 1) = true by rw [HT.out, hI.out.1, decide_eq_true (HK.out.2 (.inl hx))]; rfl)
          clear hx HT HK HX
          go_wp2
          go_roundw
          case rel => exact ⟨i + 1, by go_num, by omega, by omega, HF.out, H1.out⟩
          case measure => simp [intOf]; omega
        | false =>
          by_cases h46 : x = 46
          · have HF := Hid.of (show al 20 ((s.data.toList.take (i + 1)).drop 1) = true by rw [HT.out, hI.out.1, decide_eq_true (HK.out.2 (.inr h46))]; rfl)
            have hb46 : ((x.toNat : Int) != 46) = false := by rw [h46]; rfl
            clear hx HT HK HX h46
            go_wp2
            go_roundw
            case rel => exact ⟨i + 1, by go_num, by omega, by omega, HF.out, H1.out⟩
            case measure => simp [intOf]; omega
          · have HF := Hid.of (HX.out (fun h => by
              rcases HK.out.1 h with h | h
              · rw [hx] at h; cases h
              · exact h46 h))
            have hb46 : ((x.toNat : Int) != 46) = true := by
              rw [bne, show (46 : Int) = ((46 : UInt8).toNat : Int) from rfl, u8eq]
              simpa using h46
            clear hx HT HK HX h46
            go_wp2
            go_ret
            rw [HE.out, HF.out]
            exact ⟨rfl, H1.out⟩
      · have hlt' : ¬ (i : Int) < (s.size : Int) := by omega
        have HF := Hid.of (show al 20 (s.data.toList.drop 1) = true by
          have := hI.out.1
          rwa [List.take_of_length_le (by rw [len_of]; omega)] at this)
        go_wp2
        go_ret
        rw [HE.out, HF.out]
        exact ⟨rfl, hI.out.2⟩
  · have hb : ((s[0].toNat : Int) != 118) = true := by
      rw [bne, show (118 : Int) = ((118 : UInt8).toNat : Int) from rfl, u8eq]
      simpa using h118
    have HE := Hid.of (show tld s.data.toList = false by
      rw [HR.out, hh]
      simp [h118])
    clear hh h118
    go_enter Tryz.func114, Tryz.ntmps114
    go_wp2
    go_ret
    rw [HE.out]
    exact ⟨rfl, Up.refl _⟩
end Go.Proofs.YtfopojnljfpmkaaGreatDoor
namespace Go.Proofs.YtfopojnljfpmkaaGreatDoor
open Go.RowKit Go.Shelf TextNum ModNum
theorem ba_ex (l : List UInt8) : ∃ q : ByteArray, q.data.toList = l ∧ (⟨l.toArray⟩ : ByteArray) = q := ⟨⟨l.toArray⟩, rfl, rfl⟩
/-- the first and the last of a list of texts -/
theorem SlS.ends {w : World} {v : Value} {es : List (List UInt8)} (hS : SlS w v es) (h0 : es ≠ []) : ∃ b off cc, v = .slice (some ⟨b, off, none⟩) es.length cc ∧ 0 < es.length ∧ es.length ≤ cc ∧ (∃ fs : ByteArray, fs.data.toList = es.headD [] ∧ w.cell? ⟨b, off, none⟩ = some (.string fs)) ∧ (∃ la : ByteArray, la.data.toList = es.getLastD [] ∧ w.cell? ⟨b, off + (es.length - 1), none⟩ = some (.string la)) := by
  have hpos : 0 < es.length := List.length_pos_iff.2 h0
  obtain ⟨a, cc, rfl, hcc, hx⟩ := hS
  rcases hx with h | ⟨b, off, rfl, _, hc⟩
  · exact absurd h h0
  · refine ⟨b, off, cc, rfl, hpos, hcc, ⟨⟨(es[0]).toArray⟩, ?_, ?_⟩, ⟨⟨(es[es.length - 1]).toArray⟩, ?_, hc _ (by omega)⟩⟩
    · cases es with
      | nil => cases hpos
      | cons x r => rfl
    · have := hc 0 hpos
      rwa [Nat.add_zero] at this
    · cases es with
      | nil => cases hpos
      | cons x r => simp [List.getLastD_eq_getLast?, List.getLast?_eq_getElem?]
theorem last_mem {c : UInt8} {l : List UInt8} : ((pcs c l).getLastD []).length ≤ l.length := by
  rcases (pcs_last c l).2 with ⟨_, _, e⟩ | ⟨_, x, e⟩
  · rw [e]; exact Nat.le_refl _
  · have := congrArg List.length e
    rw [List.length_append, List.length_cons] at this
    omega
set_option maxRecDepth 100000 in
set_option maxHeartbeats 1000000 in
theorem hosted_walk (s : ByteArray) (hs : s.size ≤ 1048576) (w : World) : Calls Tryz.prog 113 #[.string s] w fun e w' => e = .returned (.string ⟨(hsd (tsf UNST s.data.toList)).toArray⟩) ∧ Up w w' := by
  have HE := Hid.of (ends_unst s hs w)
  cases hx : sfx UNST s.data.toList with
  | true =>
    have h9 : 9 ≤ s.size := by
      rw [sfx_drop, Bool.and_eq_true, decide_eq_true_eq, len_of] at hx
      exact hx.1
    obtain ⟨q, hq1, hq2⟩ := ba_ex (tsf UNST s.data.toList)
    have hqe : s.extract 0 (s.size - 9) = q := by
      rw [← hq2, ext_str]
      congr 2
      unfold tsf
      rw [if_pos hx, len_of]
      rfl
    have hqs : q.size ≤ 1048576 := by rw [← len_of, hq1]; unfold tsf; rw [if_pos hx, List.length_take, len_of]; omega
    have hz : (s.size : Int) - 9 = ((s.size - 9 : Nat) : Int) := by omega
    have hzl : ((s.size - 9 : Nat) : Int) ≤ (s.size : Int) := by omega
    rw [hx] at HE
    clear hx hq2
    go_enter Tryz.func113, Tryz.ntmps113
    go_wp2_with fail
    refine (HE.out).mono ?_
    rintro e w1 ⟨rfl, u1⟩
    have H1 := Hid.of (u1)
    have Hu1 := Hid.of u1
    clear u1
    dsimp only
    have HP := Hid.of (Pieces_walk q 46 hqs w1)
    rw [hq1] at HP
    go_wp2_with fail
    refine HP.out.mono ?_
    clear HP
    rintro e w2 ⟨v, rfl, h2, u2⟩
    have H2 := Hid.of (H1.out.trans u2)
    obtain ⟨b, off, cc, rfl, hpos, hcc, _, la, hla, hcl⟩ := h2.sl.ends (pcs_ne 46 (tsf UNST s.data.toList))
    have HR : Hid (hsd (tsf UNST s.data.toList) = if 2 ≤ (pcs 46 (tsf UNST s.data.toList)).length ∧ ((pcs 46 (tsf UNST s.data.toList)).getLastD []).head? = some 118 ∧ isNum (((pcs 46 (tsf UNST s.data.toList)).getLastD []).drop 1) = true then ((pcs 46 (tsf UNST s.data.toList)).getLastD []).drop 1 else []) := rfl
    have hlsz : la.size ≤ 1048576 := by
      rw [← len_of, hla]
      refine Nat.le_trans last_mem ?_
      rw [← hq1, len_of]; exact hqs
    have hnb : (pcs 46 (tsf UNST s.data.toList)).length ≤ 1048577 := by
      have := pcs_cnt 46 (tsf UNST s.data.toList)
      have h9 := congrArg List.length hq1
      rw [len_of] at h9
      omega
    rw [← hla] at HR
    generalize hnn : (pcs 46 (tsf UNST s.data.toList)).length = n at *
    clear hnn hla h2 u2 H1 HE hq1
    have hlz : (n : Int) - 1 = ((n - 1 : Nat) : Int) := by omega
    have hnz : ((n - 1 : Nat) : Int) < (n : Int) := by omega
    have hccz : (n : Int) ≤ (cc : Int) := by omega
    by_cases hn2 : n < 2
    · have hn2z : (n : Int) < 2 := by omega
      have HE := Hid.of (show hsd (tsf UNST s.data.toList) = [] by rw [HR.out, if_neg (by omega)])
      clear HR hn2
      dsimp only
      go_wp2
      go_ret
      rw [HE.out]
      exact ⟨rfl, H2.out⟩
    have hn2z : ¬ (n : Int) < 2 := by omega
    by_cases hl2 : la.size < 2
    · have hl2z : (la.size : Int) < 2 := by omega
      have HE := Hid.of (show hsd (tsf UNST s.data.toList) = [] by
        rw [HR.out, if_neg]
        rintro ⟨_, _, h⟩
        have := (isNum_al h).2
        exact this (List.drop_of_length_le (by rw [len_of]; omega)))
      clear HR hn2 hl2
      dsimp only
      go_wp2
      go_ret
      rw [HE.out]
      exact ⟨rfl, H2.out⟩
    have hl2z : ¬ (la.size : Int) < 2 := by omega
    have hl0z : (0 : Int) < (la.size : Int) := by omega
    have hl1z : (1 : Int) ≤ (la.size : Int) := by omega
    have hh := head_of (s := la) (by omega)
    by_cases h118 : la[0] = 118
    · have hb : ((la[0].toNat : Int) != 118) = false := by rw [h118]; rfl
      obtain ⟨d, hd1, hd2⟩ := ba_ex (la.data.toList.drop 1)
      have hde : la.extract 1 la.size = d := by
        rw [← hd2, ext_str, List.take_of_length_le (by rw [List.length_drop, len_of]; omega)]
      have hds : d.size ≤ 1048576 := by rw [← len_of, hd1, List.length_drop, len_of]; omega
      have HN := Hid.of (number_walk d hds w2)
      rw [← hd1] at HR
      have HE := Hid.of (show hsd (tsf UNST s.data.toList) = if isNum d.data.toList = true then d.data.toList else [] by
        rw [HR.out, hh, h118]
        simp only [show 2 ≤ n by omega, true_and])
      clear HR hn2 hh h118 hd1
      dsimp only
      go_wp2_with fail
      refine HN.out.mono ?_
      rintro e w3 ⟨rfl, u3⟩
      have H3 := Hid.of (H2.out.trans u3)
      have hcl3 := u3.cell hcl
      clear u3 HN hcl
      dsimp only
      cases hi : isNum d.data.toList with
      | true =>
        rw [hi] at HE
        clear hi
        go_wp2
        go_ret
        refine ⟨?_, H3.out⟩
        rw [HE.out]
        rfl
      | false =>
        rw [hi] at HE
        clear hi
        go_wp2
        go_ret
        refine ⟨?_, H3.out⟩
        rw [HE.out]
        rfl
    · have hb : ((la[0].toNat : Int) != 118) = true := by
        rw [bne, show (118 : Int) = ((118 : UInt8).toNat : Int) from rfl, u8eq]
        simpa using h118
      have HE := Hid.of (show hsd (tsf UNST s.data.toList) = [] by
        rw [HR.out, if_neg]
        rintro ⟨_, h, _⟩
        rw [hh] at h
        exact h118 (Option.some.inj h))
      clear HR hn2 hh h118
      dsimp only
      go_wp2
      go_ret
      rw [HE.out]
      exact ⟨rfl, H2.out⟩
  | false =>
    have hq1 : s.data.toList = tsf UNST s.data.toList := by unfold tsf; rw [hx]; rfl
    rw [hx] at HE
    clear hx
    go_enter Tryz.func113, Tryz.ntmps113
    go_wp2_with fail
    refine (HE.out).mono ?_
    rintro e w1 ⟨rfl, u1⟩
    have H1 := Hid.of (u1)
    have Hu1 := Hid.of u1
    clear u1
    dsimp only
    have HP := Hid.of (Pieces_walk s 46 hs w1)
    have hqs := hs
    rw [hq1] at HP
    go_wp2_with fail
    refine HP.out.mono ?_
    clear HP
    rintro e w2 ⟨v, rfl, h2, u2⟩
    have H2 := Hid.of (H1.out.trans u2)
    obtain ⟨b, off, cc, rfl, hpos, hcc, _, la, hla, hcl⟩ := h2.sl.ends (pcs_ne 46 (tsf UNST s.data.toList))
    have HR : Hid (hsd (tsf UNST s.data.toList) = if 2 ≤ (pcs 46 (tsf UNST s.data.toList)).length ∧ ((pcs 46 (tsf UNST s.data.toList)).getLastD []).head? = some 118 ∧ isNum (((pcs 46 (tsf UNST s.data.toList)).getLastD []).drop 1) = true then ((pcs 46 (tsf UNST s.data.toList)).getLastD []).drop 1 else []) := rfl
    have hlsz : la.size ≤ 1048576 := by
      rw [← len_of, hla]
      refine Nat.le_trans last_mem ?_
      rw [← hq1, len_of]; exact hqs
    have hnb : (pcs 46 (tsf UNST s.data.toList)).length ≤ 1048577 := by
      have := pcs_cnt 46 (tsf UNST s.data.toList)
      have h9 := congrArg List.length hq1
      rw [len_of] at h9
      omega
    rw [← hla] at HR
    generalize hnn : (pcs 46 (tsf UNST s.data.toList)).length = n at *
    clear hnn hla h2 u2 H1 HE hq1
    have hlz : (n : Int) - 1 = ((n - 1 : Nat) : Int) := by omega
    have hnz : ((n - 1 : Nat) : Int) < (n : Int) := by omega
    have hccz : (n : Int) ≤ (cc : Int) := by omega
    by_cases hn2 : n < 2
    · have hn2z : (n : Int) < 2 := by omega
      have HE := Hid.of (show hsd (tsf UNST s.data.toList) = [] by rw [HR.out, if_neg (by omega)])
      clear HR hn2
      dsimp only
      go_wp2
      go_ret
      rw [HE.out]
      exact ⟨rfl, H2.out⟩
    have hn2z : ¬ (n : Int) < 2 := by omega
    by_cases hl2 : la.size < 2
    · have hl2z : (la.size : Int) < 2 := by omega
      have HE := Hid.of (show hsd (tsf UNST s.data.toList) = [] by
        rw [HR.out, if_neg]
        rintro ⟨_, _, h⟩
        have := (isNum_al h).2
        exact this (List.drop_of_length_le (by rw [len_of]; omega)))
      clear HR hn2 hl2
      dsimp only
      go_wp2
      go_ret
      rw [HE.out]
      exact ⟨rfl, H2.out⟩
    have hl2z : ¬ (la.size : Int) < 2 := by omega
    have hl0z : (0 : Int) < (la.size : Int) := by omega
    have hl1z : (1 : Int) ≤ (la.size : Int) := by omega
    have hh := head_of (s := la) (by omega)
    by_cases h118 : la[0] = 118
    · have hb : ((la[0].toNat : Int) != 118) = false := by rw [h118]; rfl
      obtain ⟨d, hd1, hd2⟩ := ba_ex (la.data.toList.drop 1)
      have hde : la.extract 1 la.size = d := by
        rw [← hd2, ext_str, List.take_of_length_le (by rw [List.length_drop, len_of]; omega)]
      have hds : d.size ≤ 1048576 := by rw [← len_of, hd1, List.length_drop, len_of]; omega
      have HN := Hid.of (number_walk d hds w2)
      rw [← hd1] at HR
      have HE := Hid.of (show hsd (tsf UNST s.data.toList) = if isNum d.data.toList = true then d.data.toList else [] by
        rw [HR.out, hh, h118]
        simp only [show 2 ≤ n by omega, true_and])
      clear HR hn2 hh h118 hd1
      dsimp only
      go_wp2_with fail
      refine HN.out.mono ?_
      rintro e w3 ⟨rfl, u3⟩
      have H3 := Hid.of (H2.out.trans u3)
      have hcl3 := u3.cell hcl
      clear u3 HN hcl
      dsimp only
      cases hi : isNum d.data.toList with
      | true =>
        rw [hi] at HE
        clear hi
        go_wp2
        go_ret
        refine ⟨?_, H3.out⟩
        rw [HE.out]
        rfl
      | false =>
        rw [hi] at HE
        clear hi
        go_wp2
        go_ret
        refine ⟨?_, H3.out⟩
        rw [HE.out]
        rfl
    · have hb : ((la[0].toNat : Int) != 118) = true := by
        rw [bne, show (118 : Int) = ((118 : UInt8).toNat : Int) from rfl, u8eq]
        simpa using h118
      have HE := Hid.of (show hsd (tsf UNST s.data.toList) = [] by
        rw [HR.out, if_neg]
        rintro ⟨_, h, _⟩
        rw [hh] at h
        exact h118 (Option.some.inj h))
      clear HR hn2 hh h118
      dsimp only
      go_wp2
      go_ret
      rw [HE.out]
      exact ⟨rfl, H2.out⟩
end Go.Proofs.YtfopojnljfpmkaaGreatDoor
namespace Go.Proofs.YtfopojnljfpmkaaGreatDoor
open Go.RowKit Go.Shelf TextNum ModNum
/-- the document's table of names -/
def TK (w : World) : Prop := ∀ k (h : k < rsv.length), w.cell? ⟨1, k, none⟩ = some (.string ⟨(rsv[k]).toArray⟩)
theorem TK.up {w w' : World} (h : TK w) (u : Up w w') : TK w' := fun k hk => u.cell (h k hk)
theorem kd63w (n : Nat) : (kd n &&& 63 ≠ 0) ↔ ((97 ≤ n ∧ n ≤ 122) ∨ (65 ≤ n ∧ n ≤ 90) ∨ (48 ≤ n ∧ n ≤ 57) ∨ n = 45 ∨ n = 46 ∨ n = 95 ∨ n = 126) := by
  unfold kd
  (repeat' split) <;> simp <;> omega
theorem dgl_eq (l : List UInt8) : dgl' l = dgl l := rfl
theorem last_of {s : ByteArray} (h : 0 < s.size) : s.data.toList.getLast? = some (s[s.size - 1]'(by omega)) := by
  rw [List.getLast?_eq_getElem?, List.getElem?_eq_getElem (by rw [len_of]; omega)]
  congr 1
set_option maxRecDepth 100000 in
set_option maxHeartbeats 2000000 in
theorem element_walk (s : ByteArray) (hs : s.size ≤ 1048576) (w : World) (hT : TK w) : Calls Tryz.prog 111 #[.string s] w fun e w' => e = .returned (.bool (rElm s.data.toList)) ∧ Up w w' := by
  have HTK := Hid.of hT
  clear hT
  have HR : Hid (rElm s.data.toList = (!s.data.toList.isEmpty && s.data.toList.head? != some 46 && s.data.toList.getLast? != some 46 && al 63 s.data.toList && !decide ((ahd 46 s.data.toList).map lwr ∈ rsv) && (decide ((pcs 126 (ahd 46 s.data.toList)).length < 2) || !dgl' ((pcs 126 (ahd 46 s.data.toList)).getLastD [])))) := rfl
  have hem := emp_of s
  by_cases h0 : s.size = 0
  · have he : s.toList.isEmpty = true := by rw [hem, List.isEmpty_iff, ← List.length_eq_zero_iff, len_of]; exact h0
    have HE := Hid.of (show rElm s.data.toList = false by rw [HR.out, ← hem, he]; simp)
    clear hem HR h0
    go_enter Tryz.func111, Tryz.ntmps111
    go_wp2
    go_ret
    rw [HE.out]
    exact ⟨rfl, Up.refl _⟩
  have he : s.toList.isEmpty = false := by
    rw [hem, Bool.eq_false_iff, ne_eq, List.isEmpty_iff, ← List.length_eq_zero_iff, len_of]
    exact h0
  have hpos : 0 < s.size := by omega
  have h0z : (0 : Int) < (s.size : Int) := by omega
  have hlz : (s.size : Int) - 1 = ((s.size - 1 : Nat) : Int) := by omega
  have hnz : ((s.size - 1 : Nat) : Int) < (s.size : Int) := by omega
  have hln : s.size - 1 < s.size := by omega
  have hh := head_of hpos
  have hll := last_of hpos
  rw [← hem, he] at HR
  clear hem h0
  by_cases h46 : s[0] = 46
  · have hb : ((s[0].toNat : Int) == 46) = true := by rw [h46]; rfl
    have HE := Hid.of (show rElm s.data.toList = false by rw [HR.out, hh, h46]; rfl)
    clear HR hh hll h46
    go_enter Tryz.func111, Tryz.ntmps111
    go_wp2
    go_ret
    rw [HE.out]
    exact ⟨rfl, Up.refl _⟩
  have hb : ((s[0].toNat : Int) == 46) = false := by
    rw [show (46 : Int) = ((46 : UInt8).toNat : Int) from rfl, u8eq]
    simpa using h46
  by_cases k46 : s[s.size - 1] = 46
  · have hb2 : ((s[s.size - 1].toNat : Int) == 46) = true := by rw [k46]; rfl
    have HE := Hid.of (show rElm s.data.toList = false by rw [HR.out, hll, k46]; simp)
    clear HR hh hll h46 k46
    go_enter Tryz.func111, Tryz.ntmps111
    go_wp2
    go_ret
    rw [HE.out]
    exact ⟨rfl, Up.refl _⟩
  have hb2 : ((s[s.size - 1].toNat : Int) == 46) = false := by
    rw [show (46 : Int) = ((46 : UInt8).toNat : Int) from rfl, u8eq]
    simpa using k46
  have HR2 := Hid.of (show rElm s.data.toList = (al 63 s.data.toList && !decide ((ahd 46 s.data.toList).map lwr ∈ rsv) && (decide ((pcs 126 (ahd 46 s.data.toList)).length < 2) || !dgl ((pcs 126 (ahd 46 s.data.toList)).getLastD []))) by
    rw [HR.out, hh, hll, dgl_eq]
    rw [show ((some s[0] : Option UInt8) != some 46) = true by simp [bne, h46], show ((some s[s.size - 1] : Option UInt8) != some 46) = true by simp [bne, k46]]
    simp only [Bool.not_false, Bool.true_and])
  clear HR hh hll h46 k46
  go_enter Tryz.func111, Tryz.ntmps111
  go_wp2
  clear hb hb2
  go_loopw [3, 4] (fun v3 _ wr => ∃ i : Nat, v3 = .int .i64 (i : Int) ∧ i ≤ s.size ∧ Hid (al 63 (s.data.toList.take i) = true ∧ Up w wr)) (fun v3 _ _ => s.size - (intOf v3).toNat)
  case atStart => exact ⟨0, rfl, by omega, rfl, Up.refl _⟩
  case round =>
    obtain ⟨i, rfl, hi, hI⟩ := hrel
    by_cases hlt : i < s.size
    · have hlt' : (i : Int) < (s.size : Int) := by omega
      have HT := Hid.of (And.intro (al_take (k := 63) hlt) (fun hk => al_no (k := 63) hlt hk))
      have HD := fun w' => Hid.of (digit_walk s[i] w')
      have HS := fun w' => Hid.of (small_walk s[i] w')
      have HC := fun w' => Hid.of (capital_walk s[i] w')
      generalize hxx : s[i] = x at *
      have hk : (kd x.toNat &&& 63 ≠ 0) ↔ (sml x = true ∨ cap x = true ∨ dgt x = true ∨ x.toNat = 45 ∨ x.toNat = 46 ∨ x.toNat = 95 ∨ x.toNat = 126) := by rw [kd63w]; simp [dgt, sml, cap]
      have HK := Hid.of hk
      clear hk
      generalize sml x = ss at *
      generalize cap x = cc at *
      generalize dgt x = dd at *
      go_wp2_with fail
      refine ((HS _).out).mono ?_
      rintro e w1 ⟨rfl, u1⟩
      have H1 := Hid.of (hI.out.2.trans u1)
      have Hu1 := Hid.of u1
      clear u1
      dsimp only
      cases ss with
      | true =>
        have HF := Hid.of (show al 63 (s.data.toList.take (i + 1)) = true by rw [HT.out.1, hI.out.1, decide_eq_true (HK.out.2 (.inl rfl))]; rfl)
        clear HT HK
        go_wp2
        go_roundw
        case rel => exact ⟨i + 1, by go_num, by omega, HF.out, H1.out⟩
        case measure => simp [intOf]; omega
      | false =>
        go_wp2_with fail
        refine ((HC _).out).mono ?_
        rintro e w2 ⟨rfl, u2⟩
        have H2 := Hid.of (H1.out.trans u2)
        have Hu2 := Hid.of u2
        clear u2
        dsimp only
        cases cc with
        | true =>
          have HF := Hid.of (show al 63 (s.data.toList.take (i + 1)) = true by rw [HT.out.1, hI.out.1, decide_eq_true (HK.out.2 (.inr (.inl rfl)))]; rfl)
          clear HT HK
          go_wp2
          go_roundw
          case rel => exact ⟨i + 1, by go_num, by omega, HF.out, H2.out⟩
          case measure => simp [intOf]; omega
        | false =>
          go_wp2_with fail
          refine ((HD _).out).mono ?_
          rintro e w3 ⟨rfl, u3⟩
          have H3 := Hid.of (H2.out.trans u3)
          have Hu3 := Hid.of u3
          clear u3
          dsimp only
          cases dd with
          | true =>
            have HF := Hid.of (show al 63 (s.data.toList.take (i + 1)) = true by rw [HT.out.1, hI.out.1, decide_eq_true (HK.out.2 (.inr (.inr (.inl rfl))))]; rfl)
            clear HT HK
            go_wp2
            go_roundw
            case rel => exact ⟨i + 1, by go_num, by omega, HF.out, H3.out⟩
            case measure => simp [intOf]; omega
          | false =>
            by_cases h45 : x.toNat = 45
            · have HF := Hid.of (show al 63 (s.data.toList.take (i + 1)) = true by rw [HT.out.1, hI.out.1, decide_eq_true (HK.out.2 (.inr (.inr (.inr (.inl h45)))))]; rfl)
              have z45 : (x.toNat : Int) = 45 := by omega
              clear HT HK h45
              rw [z45]
              go_wp2
              go_roundw
              case rel => exact ⟨i + 1, by go_num, by omega, HF.out, H3.out⟩
              case measure => simp [intOf]; omega
            have z45 : ((x.toNat : Int) != 45) = true := by rw [bne_iff_ne]; omega
            by_cases h46 : x.toNat = 46
            · have HF := Hid.of (show al 63 (s.data.toList.take (i + 1)) = true by rw [HT.out.1, hI.out.1, decide_eq_true (HK.out.2 (.inr (.inr (.inr (.inr (.inl h46))))))]; rfl)
              have z46 : (x.toNat : Int) = 46 := by omega
              clear HT HK h46
              rw [z46]
              go_wp2
              go_roundw
              case rel => exact ⟨i + 1, by go_num, by omega, HF.out, H3.out⟩
              case measure => simp [intOf]; omega
            have z46 : ((x.toNat : Int) != 46) = true := by rw [bne_iff_ne]; omega
            by_cases h95 : x.toNat = 95
            · have HF := Hid.of (show al 63 (s.data.toList.take (i + 1)) = true by rw [HT.out.1, hI.out.1, decide_eq_true (HK.out.2 (.inr (.inr (.inr (.inr (.inr (.inl h95)))))))]; rfl)
              have z95 : (x.toNat : Int) = 95 := by omega
              clear HT HK h95
              rw [z95]
              go_wp2
              go_roundw
              case rel => exact ⟨i + 1, by go_num, by omega, HF.out, H3.out⟩
              case measure => simp [intOf]; omega
            have z95 : ((x.toNat : Int) != 95) = true := by rw [bne_iff_ne]; omega
            by_cases h126 : x.toNat = 126
            · have HF := Hid.of (show al 63 (s.data.toList.take (i + 1)) = true by rw [HT.out.1, hI.out.1, decide_eq_true (HK.out.2 (.inr (.inr (.inr (.inr (.inr (.inr h126)))))))]; rfl)
              have z126 : (x.toNat : Int) = 126 := by omega
              clear HT HK h126
              rw [z126]
              go_wp2
              go_roundw
              case rel => exact ⟨i + 1, by go_num, by omega, HF.out, H3.out⟩
              case measure => simp [intOf]; omega
            have z126 : ((x.toNat : Int) != 126) = true := by rw [bne_iff_ne]; omega
            have HF := Hid.of (HT.out.2 (fun h => by
              rcases HK.out.1 h with h | h | h | h | h | h | h
              · cases h
              · cases h
              · cases h
              · exact h45 h
              · exact h46 h
              · exact h95 h
              · exact h126 h))
            clear HT HK h45 h46 h95 h126
            go_wp2
            go_ret
            rw [HR2.out, HF.out]
            exact ⟨rfl, H3.out⟩
    · have hlt' : ¬ (i : Int) < (s.size : Int) := by omega
      have HF := Hid.of (show al 63 s.data.toList = true by
        have := hI.out.1
        rwa [List.take_of_length_le (by rw [len_of]; omega)] at this)
      rw [HF.out, Bool.true_and] at HR2
      have HA := Hid.of (ahead_walk s 46 hs wr)
      obtain ⟨p, hp1, hp2⟩ := ba_ex (ahd 46 s.data.toList)
      rw [hp2] at HA
      rw [← hp1] at HR2
      have hps : p.size ≤ 1048576 := by rw [← len_of, hp1]; have := ahd_le 46 s.data.toList; rw [len_of] at this; omega
      clear hp1 hp2 hlt
      rw [show ((46 : UInt8).toNat : Int) = 46 from rfl] at HA
      go_wp2_with fail
      refine (HA.out).mono ?_
      rintro e w1 ⟨rfl, u1⟩
      have H1 := Hid.of (hI.out.2.trans u1)
      have Hu1 := Hid.of u1
      clear u1
      dsimp only
      have HB := Hid.of (below_walk p hps w1)
      obtain ⟨q, hq1, hq2⟩ := ba_ex (p.data.toList.map lwr)
      rw [hq2] at HB
      rw [← hq1] at HR2
      clear hq1 hq2
      go_wp2_with fail
      refine (HB.out).mono ?_
      rintro e w2 ⟨rfl, u2⟩
      have H2 := Hid.of (H1.out.trans u2)
      have Hu2 := Hid.of u2
      clear u2
      dsimp only
      go_wp2
      go_loopw [7] (fun v7 wq => ∃ j : Nat, v7 = .int .i64 (j : Int) ∧ j ≤ 22 ∧ Hid (q.data.toList ∉ rsv.take j ∧ Up w wq)) (fun v7 _ => 22 - (intOf v7).toNat)
      case atStart => exact ⟨0, rfl, by omega, List.not_mem_nil, H2.out⟩
      case round =>
        obtain ⟨j, rfl, hj, hJ⟩ := hrel
        by_cases hlt : j < 22
        · have hltz : (j : Int) < 22 := by omega
          have hj2 : j < rsv.length := hlt
          have hc := (HTK.out.up hJ.out.2) j hj2
          have HT := Hid.of (And.intro (List.take_succ_eq_append_getElem (l := rsv) hj2) (List.getElem_mem (l := rsv) hj2))
          generalize rsv[j]'hj2 = d at *
          by_cases heq0 : q.data.toList = d
          · have heq : (q.toList == d) = true := by rw [Go.Lib.toList_data]; simpa using heq0
            have HX := Hid.of (show q.data.toList ∈ rsv by rw [heq0]; exact HT.out.2)
            clear heq0 HT
            go_wp2
            go_ret
            rw [HR2.out, decide_eq_true HX.out]
            exact ⟨rfl, hJ.out.2⟩
          · have heq : (q.toList == d) = false := by rw [Go.Lib.toList_data]; simpa using heq0
            have HX := Hid.of (show q.data.toList ∉ rsv.take (j + 1) by
              rw [HT.out.1]
              intro hc
              rcases List.mem_append.1 hc with hc | hc
              · exact hJ.out.1 hc
              · exact heq0 (by simpa using hc))
            clear heq0 HT
            go_wp2
            go_roundw
            case rel => exact ⟨j + 1, by go_num, by omega, HX.out, hJ.out.2⟩
            case measure => simp [intOf]; omega
        · have hltz : ¬ (j : Int) < 22 := by omega
          have HX := Hid.of (show q.data.toList ∉ rsv by
            have := hJ.out.1
            rwa [List.take_of_length_le (by show rsv.length ≤ j; have : rsv.length = 22 := rfl; omega)] at this)
          rw [decide_eq_false HX.out, Bool.not_false, Bool.true_and] at HR2
          obtain ⟨wb, hwb⟩ : ∃ wb, wb = wr := ⟨_, rfl⟩
          have HP := Hid.of (Pieces_walk p 126 hps wr)
          rw [show ((126 : UInt8).toNat : Int) = 126 from rfl] at HP
          clear hlt
          go_wp2_with fail
          refine HP.out.mono ?_
          clear HP
          rintro e w4 ⟨v, rfl, h4, u4⟩
          have H4 := Hid.of (hJ.out.2.trans u4)
          obtain ⟨b, off, cc, rfl, hpp, hcc, _, la, hla, hcl⟩ := h4.sl.ends (pcs_ne 126 p.data.toList)
          rw [← hla] at HR2
          have hlas : la.size ≤ 1048576 := by
            rw [← len_of, hla]
            refine Nat.le_trans last_mem ?_
            rw [len_of]
            exact hps
          have hnb : (pcs 126 p.data.toList).length ≤ 1048577 := by
            have := pcs_cnt 126 p.data.toList
            rw [len_of] at this
            omega
          generalize hnn : (pcs 126 p.data.toList).length = n at *
          clear hnn hla h4 u4
          have hmz : (n : Int) - 1 = ((n - 1 : Nat) : Int) := by omega
          have hmn : ((n - 1 : Nat) : Int) < (n : Int) := by omega
          have hccz : (n : Int) ≤ (cc : Int) := by omega
          dsimp only
          by_cases hn2 : n < 2
          · have hn2z : (n : Int) < 2 := by omega
            have HE := Hid.of (show rElm s.data.toList = true by rw [HR2.out, decide_eq_true hn2]; rfl)
            clear hn2 HR2
            go_wp2
            go_ret
            rw [HE.out]
            exact ⟨rfl, H4.out⟩
          · have hn2z : ¬ (n : Int) < 2 := by omega
            have HE := Hid.of (show rElm s.data.toList = !dgl la.data.toList by rw [HR2.out, decide_eq_false hn2]; rfl)
            have HG := Hid.of (digits_walk la hlas w4)
            generalize dgl la.data.toList = dd at *
            clear hn2 HR2
            go_wp2_with fail
            refine (HG.out).mono ?_
            rintro e w5 ⟨rfl, u5⟩
            have H5 := Hid.of (H4.out.trans u5)
            have Hu5 := Hid.of u5
            clear u5
            dsimp only
            go_wp2
            go_ret
            rw [HE.out]
            exact ⟨rfl, H5.out⟩
end Go.Proofs.YtfopojnljfpmkaaGreatDoor
