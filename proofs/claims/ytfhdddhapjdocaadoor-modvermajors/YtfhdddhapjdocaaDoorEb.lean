import Derived.Test.YtfhdddhapjdocaaDoorEa
namespace Go.Proofs.YtfhdddhapjdocaaDoor
open Go.RowKit Go.Shelf TextNum ModNum
theorem une_cap {c : UInt8} {r : List UInt8} (h : kd c.toNat = 2) : une (c :: r) = none := by unfold une; rw [if_pos h]
theorem une_bad {c : UInt8} {r : List UInt8} (h : kd c.toNat ≠ 1) : une (33 :: c :: r) = none := by
  unfold une
  rw [if_neg (by decide), if_pos rfl]
  simp only
  rw [if_neg h]
theorem une_mark {c : UInt8} {r : List UInt8} (h : kd c.toNat = 1) : une (33 :: c :: r) = (une r).map ((c - 32) :: ·) := by
  conv => lhs; unfold une
  rw [if_neg (by decide), if_pos rfl]
  simp only
  rw [if_pos h]
theorem une_plain {c : UInt8} {r : List UInt8} (h : kd c.toNat ≠ 2) (h2 : c ≠ 33) : une (c :: r) = (une r).map (c :: ·) := by
  conv => lhs; unfold une
  rw [if_neg h, if_neg h2]
theorem drop_get {s : ByteArray} {i : Nat} (h : i < s.size) : s.data.toList.drop i = s[i] :: s.data.toList.drop (i + 1) := by
  rw [List.drop_eq_getElem_cons (by rw [len_of]; exact h)]
  rfl
/-- where the reading stands -/
def UJ (w : World) (s : ByteArray) (v : Value) (p : List UInt8) (m : Bool) (i : Nat) (wr : World) : Prop :=
  Own wr w.heap.size v p ∧ Up w wr ∧ p.length ≤ i ∧ une s.data.toList = (une (if m = true then 33 :: s.data.toList.drop i else s.data.toList.drop i)).map (p ++ ·)
def UR (l : List UInt8) (w : World) (e : Ending) (w' : World) : Prop := ∃ x : List UInt8, e = .returned (.tuple #[.string ⟨x.toArray⟩, .bool (une l).isSome]) ∧ (∀ p, une l = some p → x = p) ∧ Up w w'
theorem UR.no {l x : List UInt8} {w w' : World} (h : une l = none) (u : Up w w') : UR l w (.returned (.tuple #[.string ⟨x.toArray⟩, .bool false])) w' :=
  ⟨x, by rw [h]; rfl, fun p hp => (by rw [h] at hp; cases hp), u⟩
set_option maxRecDepth 100000 in
set_option maxHeartbeats 2000000 in
theorem unescape_walk (s : ByteArray) (hs : s.size ≤ 140737488355000) (w : World) (hG : GM w) : Calls Tryd.prog 36 #[.string s] w (UR s.data.toList w) := by
  have HG := Hid.of hG
  clear hG
  go_enter Tryd.func36, Tryd.ntmps36
  go_wp2_with (with_reducible show wpList _ _ _ ({ dst := _, op := Op.makeSlice 32 _ _, type := _, pos := _, after := _, guard := _ } :: _) _ _; refine Shut.out ?_)
  show wpList _ _ _ _ _ _
  refine wpList_mk rfl _ _ rfl _ _ _ s.size rfl rfl rfl (by omega) ?_
  intro w1 h1 u1
  simp only [Act.put, List.setIfInBounds_toArray, List.set_cons_zero, List.set_cons_succ]
  have H1 := Hid.of (And.intro h1 u1)
  clear h1 u1
  go_wp2
  go_loopw [4, 5, 6, 7, 13] (fun v4 v5 _ _ v13 wr => ∃ (i : Nat) (m : Bool) (p : List UInt8), v5 = .bool m ∧ v13 = .int .i64 (i : Int) ∧ i ≤ s.size ∧ Hid (UJ w s v4 p m i wr)) (fun _ _ _ _ v13 _ => s.size - (intOf v13).toNat)
  case atStart => exact ⟨0, false, [], rfl, rfl, by omega, H1.out.1, H1.out.2, by simp, by simp⟩
  case round =>
    obtain ⟨i, m, p, rfl, rfl, hi, hI⟩ := hrel
    by_cases hlt : i < s.size
    · have hlt' : (i : Int) < (s.size : Int) := by omega
      have HK := Hid.of (kindOf_walk s[i].toNat wr (HG.out.up hI.out.2.1))
      have HE := Hid.of (And.intro hI.out.2.2.2 trivial)
      rw [drop_get hlt] at HE
      have HP := Hid.of (show p.length + 1 ≤ 140737488355328 by have := hI.out.2.2.1; omega)
      have hw3 := w32 s[i]
      generalize hxx : s[i] = x at *
      by_cases hc : kd x.toNat = 2
      · rw [hc] at HK
        have HN := Hid.of (And.intro (show une s.data.toList = none by
          rw [HE.out.1]
          cases m with
          | false => simp [une_cap hc]
          | true => simp [une_bad (show kd x.toNat ≠ 1 by omega)]) trivial)
        clear hc HE
        go_wp2_with fail
        refine (HK.out).mono ?_
        rintro e w2 ⟨rfl, u2⟩
        have H2 := Hid.of (hI.out.2.1.trans u2)
        have Hu2 := Hid.of u2
        clear u2
        dsimp only
        go_wp2
        go_ret2
        exact UR.no HN.out.1 H2.out
      · have hkz : (((kd x.toNat : Nat) : Int) == 2) = false := by rw [beq_eq_false_iff_ne]; omega
        cases m with
        | true =>
          by_cases hk1 : kd x.toNat = 1
          · rw [hk1] at HK
            have hsm := kd_sml.1 hk1
            have h33 : (((x.toNat : Nat) : Int) == 33) = false := by rw [beq_eq_false_iff_ne]; omega
            have H32 := Hid.of (And.intro (u8_m32 x) trivial)
            have HE2 := Hid.of (And.intro (show une s.data.toList = (une (s.data.toList.drop (i + 1))).map ((p ++ [x - 32]) ++ ·) by
              rw [HE.out.1]
              simp only [if_true]
              rw [une_mark hk1, Option.map_map]
              congr 1
              funext q
              simp) trivial)
            clear hc hk1 hsm HE hkz
            go_wp2_with fail
            refine (HK.out).mono ?_
            rintro e w2 ⟨rfl, u2⟩
            have H2 := Hid.of (hI.out.2.1.trans u2)
            have Hu2 := Hid.of u2
            clear u2
            dsimp only
            go_wp2_with (with_reducible show wpList _ _ _ ({ dst := _, op := Op.call { callee := Callee.builtin Builtin.append, args := _, argTypes := _ }, type := _, pos := _, after := _, guard := _ } :: _) _ _; refine Shut.out ?_)
            show wpList _ _ _ _ _ _
            rw [H32.out.1]
            refine wpList_app1 (w := w2) rfl _ _ rfl w.heap.size _ p [x - 32] rfl (by exact hI.out.1.below Hu2.out) 1 rfl HP.out H2.out.size ?_
            intro v' w' h1 h2
            simp only [Act.put, List.setIfInBounds_toArray, List.set_cons_zero, List.set_cons_succ]
            go_wp2
            go_roundw
            case rel => exact ⟨i + 1, false, p ++ [x - 32], rfl, by go_num, by omega, h1, H2.out.step (Nat.le_refl _) h2, by have := hI.out.2.2.1; simp; omega, by simpa using HE2.out.1⟩
            case measure => simp [intOf]; omega
          · have hk1z : (((kd x.toNat : Nat) : Int) != 1) = true := by rw [bne_iff_ne]; omega
            have HN := Hid.of (And.intro (show une s.data.toList = none by
              rw [HE.out.1]
              simp [une_bad hk1]) trivial)
            generalize kd x.toNat = kk at *
            clear hc hk1 HE
            go_wp2_with fail
            refine (HK.out).mono ?_
            rintro e w2 ⟨rfl, u2⟩
            have H2 := Hid.of (hI.out.2.1.trans u2)
            have Hu2 := Hid.of u2
            clear u2
            dsimp only
            go_wp2
            go_ret2
            exact UR.no HN.out.1 H2.out
        | false =>
          by_cases h33 : x = 33
          · have h33z : (((x.toNat : Nat) : Int) == 33) = true := by rw [h33]; rfl
            have HE2 := Hid.of (And.intro (show une s.data.toList = (une (33 :: s.data.toList.drop (i + 1))).map (p ++ ·) by rw [HE.out.1, h33]; rfl) trivial)
            generalize kd x.toNat = kk at *
            clear hc h33 HE
            go_wp2_with fail
            refine (HK.out).mono ?_
            rintro e w2 ⟨rfl, u2⟩
            have H2 := Hid.of (hI.out.2.1.trans u2)
            have Hu2 := Hid.of u2
            clear u2
            dsimp only
            go_wp2
            go_roundw
            case rel => exact ⟨i + 1, true, p, rfl, by go_num, by omega, hI.out.1.below Hu2.out, H2.out, by have := hI.out.2.2.1; omega, by simpa using HE2.out.1⟩
            case measure => simp [intOf]; omega
          · have h33z : (((x.toNat : Nat) : Int) == 33) = false := by
              rw [beq_eq_false_iff_ne]
              intro h
              exact h33 (UInt8.toNat_inj.1 (by show x.toNat = 33; omega))
            have HE2 := Hid.of (And.intro (show une s.data.toList = (une (s.data.toList.drop (i + 1))).map ((p ++ [x]) ++ ·) by
              rw [HE.out.1]
              simp only [Bool.false_eq_true, if_false]
              rw [une_plain hc h33, Option.map_map]
              congr 1
              funext q
              simp) trivial)
            generalize kd x.toNat = kk at *
            clear hc h33 HE
            go_wp2_with fail
            refine (HK.out).mono ?_
            rintro e w2 ⟨rfl, u2⟩
            have H2 := Hid.of (hI.out.2.1.trans u2)
            have Hu2 := Hid.of u2
            clear u2
            dsimp only
            go_wp2_with (with_reducible show wpList _ _ _ ({ dst := _, op := Op.call { callee := Callee.builtin Builtin.append, args := _, argTypes := _ }, type := _, pos := _, after := _, guard := _ } :: _) _ _; refine Shut.out ?_)
            show wpList _ _ _ _ _ _
            refine wpList_app1 (w := w2) rfl _ _ rfl w.heap.size _ p [x] rfl (by exact hI.out.1.below Hu2.out) 1 rfl HP.out H2.out.size ?_
            intro v' w' h1 h2
            simp only [Act.put, List.setIfInBounds_toArray, List.set_cons_zero, List.set_cons_succ]
            go_wp2
            go_roundw
            case rel => exact ⟨i + 1, false, p ++ [x], rfl, by go_num, by omega, h1, H2.out.step (Nat.le_refl _) h2, by have := hI.out.2.2.1; simp; omega, by simpa using HE2.out.1⟩
            case measure => simp [intOf]; omega
    · have hcv := conv_sl (Own.sl hI.out.1)
      have hltz : ¬ (i : Int) < (s.size : Int) := by omega
      have HE := Hid.of (And.intro hI.out.2.2.2 trivial)
      rw [List.drop_eq_nil_of_le (by rw [len_of]; omega)] at HE
      cases m with
      | true =>
        have HN := Hid.of (And.intro (show une s.data.toList = none by rw [HE.out.1]; rfl) trivial)
        go_wp2
        go_ret2
        exact UR.no HN.out.1 hI.out.2.1
      | false =>
        have HN := Hid.of (And.intro (show une s.data.toList = some p by rw [HE.out.1]; simp [une]) trivial)
        go_wp2
        go_ret2
        exact ⟨p, by rw [HN.out.1]; rfl, fun q hq => by rw [HN.out.1] at hq; exact Option.some.inj hq, hI.out.2.1⟩
end Go.Proofs.YtfhdddhapjdocaaDoor
