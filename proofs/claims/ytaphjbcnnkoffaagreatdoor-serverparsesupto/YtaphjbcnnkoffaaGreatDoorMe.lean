import Derived.Test.YtaphjbcnnkoffaaGreatDoorMc
import Derived.Test.YtaphjbcnnkoffaaGreatDoorSm
import Derived.Lib.CutLaws
import Derived.Lib.Case
namespace Go.Proofs.YtaphjbcnnkoffaaGreatDoor
open Go.RowKit Go.Shelf TextNum ModNum
theorem bld_extra : Builder.Extra Tryz.prog Tryz.lays159_ren := ⟨⟨by kernel_rfl, by kernel_rfl⟩, Tryz.lays159.t5, Tryz.lays159.a5, Tryz.lays159.z5, Tryz.lays159.v5, by kernel_rfl, by kernel_rfl, by kernel_rfl, by decide⟩
theorem idx_mem (l : List UInt8) (c : UInt8) : decide (0 ≤ Go.Lib.indexByte l c) = decide (c ∈ l) := by
  rw [decide_eq_decide]
  constructor
  · intro h
    obtain ⟨o, ho⟩ : ∃ o : Nat, Go.Lib.indexByte l c = o := ⟨(Go.Lib.indexByte l c).toNat, by omega⟩
    exact List.mem_of_getElem? (Go.Lib.indexByte_some ho).1
  · intro h
    obtain ⟨k, hk⟩ := List.getElem?_of_mem h
    rcases Int.lt_or_le (Go.Lib.indexByte l c) 0 with h1 | h1
    · have hge : -1 ≤ Go.Lib.indexByte l c := by
        rw [← Go.Lib.index_one]
        rcases Go.Lib.index_spec l [c] with ⟨e, _⟩ | ⟨i, e, _⟩ <;> rw [e] <;> omega
      exact absurd hk (Go.Lib.indexByte_none (by omega) k)
    · exact h1
theorem cut_one (l : List UInt8) (c : UInt8) : Go.Lib.cut l [c] = (ahd c l, bhd c l, decide (c ∈ l)) := by
  unfold Go.Lib.cut
  rw [Go.Lib.index_one]
  have hm := idx_mem l c
  rw [decide_eq_decide] at hm
  by_cases h : c ∈ l
  · rw [if_pos (hm.2 h), decide_eq_true h]
    obtain ⟨o, ho⟩ : ∃ o : Nat, Go.Lib.indexByte l c = o := ⟨(Go.Lib.indexByte l c).toNat, by have := hm.2 h; omega⟩
    rw [ho]
    obtain ⟨h1, h2⟩ := Go.Lib.indexByte_some ho
    have ho2 : o < l.length := (List.getElem?_eq_some_iff.1 h1).1
    have e : l = l.take o ++ c :: l.drop (o + 1) := by
      rw [List.getElem?_eq_getElem ho2] at h1
      injection h1 with h1
      rw [← h1, ← List.drop_eq_getElem_cons ho2, List.take_append_drop]
    have hno : c ∉ l.take o := by
      intro hc
      obtain ⟨k, hk⟩ := List.getElem?_of_mem hc
      rw [List.getElem?_take] at hk
      split at hk
      · rename_i hko; exact h2 k hko hk
      · cases hk
    have e1 := ahd_app hno (l.drop (o + 1))
    have e2 := bhd_app hno (l.drop (o + 1))
    rw [← e] at e1 e2
    rw [e1, e2]
    simp
  · rw [if_neg (fun h1 => h (hm.1 h1)), decide_eq_false h, ahd_miss h, bhd_miss h]
theorem lower_lwr (l : List UInt8) : Go.Lib.toLowerA l = l.map lwr := by
  unfold Go.Lib.toLowerA
  congr 1
  funext b
  unfold Go.Lib.lowerB lwr Go.Lib.isUpperB
  simp only [Bool.and_eq_true, decide_eq_true_eq, UInt8.le_iff_toNat_le]
  rfl
/-- strings.Cut at one byte -/
theorem Cut_walk (s : ByteArray) (c : UInt8) (hs : s.size ≤ 1048576) (w : World) (hG : GM w) : Calls Tryz.prog 90 #[.string s, .string ⟨#[c]⟩] w fun e w' => e = .returned (.tuple #[.string ⟨(ahd c s.data.toList).toArray⟩, .string ⟨(bhd c s.data.toList).toArray⟩, .bool (decide (c ∈ s.data.toList))]) ∧ Up w w' := by
  obtain ⟨m, hm⟩ := hG.ml
  refine (Any.strings_Cut Tryz.lays145 s ⟨#[c]⟩ m w (by omega) hm).mono ?_
  rintro e w' ⟨rfl, n, rfl⟩
  rw [show (⟨#[c]⟩ : ByteArray).data.toList = [c] from rfl, cut_one]
  exact ⟨rfl, (Up.refl w).drewN n⟩
theorem Has_walk (s : ByteArray) (c : UInt8) (w : World) : Calls Tryz.prog 124 #[.string s, .string ⟨#[c]⟩] w fun e w' => e = .returned (.bool (decide (c ∈ s.data.toList))) ∧ w' = w := by
  refine (Any.strings_Contains_one Tryz.lays144 s c w).mono ?_
  rintro e w' ⟨rfl, h⟩
  rw [idx_mem]
  exact ⟨rfl, h⟩
theorem Pre_walk (s p : ByteArray) (w : World) : Calls Tryz.prog 122 #[.string s, .string p] w fun e w' => e = .returned (.bool (pfx p.data.toList s.data.toList)) ∧ w' = w := Any.strings_HasPrefix Tryz.lays99 s p w
theorem Suf_walk (s p : ByteArray) (hs : s.size ≤ 1048576) (w : World) : Calls Tryz.prog 55 #[.string s, .string p] w fun e w' => e = .returned (.bool (sfx p.data.toList s.data.toList)) ∧ w' = w := Any.strings_HasSuffix Tryz.lays100 s p w (by omega)
theorem Tsf_walk (s p : ByteArray) (hs : s.size ≤ 1048576) (w : World) : Calls Tryz.prog 134 #[.string s, .string p] w fun e w' => e = .returned (.string ⟨(tsf p.data.toList s.data.toList).toArray⟩) ∧ w' = w := Any.strings_TrimSuffix Tryz.lays102 s p w (by omega)
theorem Low_walk (s : ByteArray) (hs : s.size ≤ 1048576) (ha : ∀ c ∈ s.data.toList, c.toNat < 128) (w : World) : Calls Tryz.prog 132 #[.string s] w fun e w' => e = .returned (.string ⟨(s.data.toList.map lwr).toArray⟩) ∧ Up w w' := by
  refine (Any.strings_ToLower_ascii Tryz.lays159 bld_extra s w (by omega) (fun j b hb => ha b (List.mem_of_getElem? hb))).mono ?_
  rintro e w' ⟨rfl, h⟩
  rw [lower_lwr]
  exact ⟨rfl, h⟩
set_option maxRecDepth 100000 in
theorem mayBeHost_walk (s : ByteArray) (w : World) (hG : GM w) : Calls Tryz.prog 111 #[.string s] w fun e w' => e = .returned (.bool (hst s.data.toList)) ∧ Up w w' := by
  have HA := fun w' => fun (u : Up w w') => Hid.of (allOf_walk s 29 (by decide) w' (hG.up u))
  have HC := Hid.of (Has_walk s 46 w)
  have HP := Hid.of (Pre_walk s ⟨#[45]⟩ w)
  rw [show (⟨#[45]⟩ : ByteArray).data.toList = [45] from rfl] at HP
  have HR : Hid (hst s.data.toList = (decide (46 ∈ s.data.toList) && !pfx [45] s.data.toList && al 29 s.data.toList)) := rfl
  clear hG
  generalize decide (46 ∈ s.data.toList) = b1 at *
  generalize pfx [45] s.data.toList = b2 at *
  cases b1 with
  | false =>
    go_enter Tryz.func111, Tryz.ntmps111
    go_wp2_with fail
    refine (HC.out).mono ?_
    rintro e w9 ⟨rfl, h9⟩
    obtain rfl := h9.symm
    clear h9
    dsimp only
    go_wp2
    go_ret
    rw [HR.out]
    exact ⟨rfl, Up.refl _⟩
  | true =>
    cases b2 with
    | true =>
      go_enter Tryz.func111, Tryz.ntmps111
      go_wp2_with fail
      refine (HC.out).mono ?_
      rintro e w9 ⟨rfl, h9⟩
      obtain rfl := h9.symm
      clear h9
      dsimp only
      go_wp2_with fail
      refine (HP.out).mono ?_
      rintro e w9 ⟨rfl, h9⟩
      obtain rfl := h9.symm
      clear h9
      dsimp only
      go_wp2
      go_ret
      rw [HR.out]
      exact ⟨rfl, Up.refl _⟩
    | false =>
      go_enter Tryz.func111, Tryz.ntmps111
      go_wp2_with fail
      refine (HC.out).mono ?_
      rintro e w9 ⟨rfl, h9⟩
      obtain rfl := h9.symm
      clear h9
      dsimp only
      go_wp2_with fail
      refine (HP.out).mono ?_
      rintro e w9 ⟨rfl, h9⟩
      obtain rfl := h9.symm
      clear h9
      dsimp only
      go_wp2_with fail
      refine ((HA _ (Up.refl _)).out).mono ?_
      rintro e w1 ⟨rfl, u1⟩
      have H1 := Hid.of (u1)
      have Hu1 := Hid.of u1
      clear u1
      dsimp only
      go_wp2
      go_ret
      rw [HR.out]
      exact ⟨by simp, H1.out⟩
theorem ixr (w : World) : ∀ (i : Nat) (h : i < 22), (Instr.index 147 (.agg rsC.toArray) (.int .i64 (i : Int))).run Tryz.prog w = .ok (.string ⟨(rsv[i]'h).toArray⟩) w := by
  intro i h
  obtain rfl | rfl | rfl | rfl | rfl | rfl | rfl | rfl | rfl | rfl | rfl | rfl | rfl | rfl | rfl | rfl | rfl | rfl | rfl | rfl | rfl | rfl : i = 0 ∨ i = 1 ∨ i = 2 ∨ i = 3 ∨ i = 4 ∨ i = 5 ∨ i = 6 ∨ i = 7 ∨ i = 8 ∨ i = 9 ∨ i = 10 ∨ i = 11 ∨ i = 12 ∨ i = 13 ∨ i = 14 ∨ i = 15 ∨ i = 16 ∨ i = 17 ∨ i = 18 ∨ i = 19 ∨ i = 20 ∨ i = 21 := by omega
  all_goals kernel_rfl
set_option maxRecDepth 100000 in
theorem isReserved_walk (s : ByteArray) (w : World) (hG : GR w) : Calls Tryz.prog 131 #[.string s] w fun e w' => e = .returned (.bool (decide (s.data.toList ∈ rsv))) ∧ w' = w := by
  have HG := Hid.of hG
  clear hG
  go_enter Tryz.func131, Tryz.ntmps131
  go_wp2_with (with_reducible show wpList _ _ _ ({ dst := _, op := Op.load 147 _, type := _, pos := _, after := _, guard := _ } :: _) _ _; refine Shut.out ?_)
  show wpList _ _ _ _ _ _
  refine wpList_load_mid rfl 147 _ rfl 7 0 rfl rsC _ HG.out.rs Tryz.underlying147 rfl (by kernel_rfl) ?_
  simp only [Act.put, List.setIfInBounds_toArray, List.set_cons_zero, List.set_cons_succ]
  have HX := Hid.of (ixr w)
  generalize rsC.toArray = tab at *
  go_wp2
  go_loopw [4, 6] (fun _ v6 wr => ∃ i : Nat, v6 = .int .i64 (i : Int) ∧ i ≤ 22 ∧ wr = w ∧ Hid (s.data.toList ∉ rsv.take i)) (fun _ v6 _ => 22 - (intOf v6).toNat)
  case atStart => exact ⟨0, rfl, by omega, rfl, List.not_mem_nil⟩
  case round =>
    obtain ⟨i, rfl, hi, hwr, hI⟩ := hrel
    obtain rfl : w = wr := hwr.symm
    clear hwr
    have hrl : rsv.length = 22 := rfl
    by_cases hlt : i < 22
    · have hltz : (i : Int) < 22 := by omega
      have hx := HX.out i hlt
      have HT := Hid.of (And.intro (List.take_succ_eq_append_getElem (l := rsv) hlt) trivial)
      have HM := Hid.of (List.getElem_mem (l := rsv) hlt)
      generalize rsv[i]'hlt = d at *
      by_cases he : s.data.toList = d
      · have heq : (s.toList == d) = true := by rw [Go.Lib.toList_data]; simpa using he
        have HF := Hid.of (And.intro (show s.data.toList ∈ rsv by rw [he]; exact HM.out) trivial)
        clear he hrl
        go_wp2
        go_ret
        rw [decide_eq_true HF.out.1]
        exact ⟨rfl, rfl⟩
      · have heq : (s.toList == d) = false := by rw [Go.Lib.toList_data]; simpa using he
        have HF := Hid.of (show s.data.toList ∉ rsv.take (i + 1) by
          rw [HT.out.1]
          intro hc
          rcases List.mem_append.1 hc with hc | hc
          · exact hI.out hc
          · exact he (by simpa using hc))
        clear he hrl
        go_wp2
        go_roundw
        case rel => exact ⟨i + 1, by go_num, by omega, by simp, HF.out⟩
        case measure => simp [intOf]; omega
    · have hltz : ¬ (i : Int) < 22 := by omega
      have HF := Hid.of (show s.data.toList ∉ rsv by
        have := hI.out
        rwa [List.take_of_length_le (by omega)] at this)
      clear hrl
      go_wp2
      go_ret
      rw [decide_eq_false HF.out]
      first | exact ⟨rfl, rfl⟩ | exact ⟨rfl, trivial⟩
end Go.Proofs.YtaphjbcnnkoffaaGreatDoor
