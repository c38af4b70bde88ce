import Derived.Test.YtbdmpdjhgjidlaaGreatDoorQu
import Derived.Test.YtbdmpdjhgjidlaaGreatDoorSf
namespace Go.Proofs.YtbdmpdjhgjidlaaGreatDoor
open Go.RowKit TextNum

theorem head_of {s : ByteArray} (h : 0 < s.size) : ∃ r, s.data.toList = s[0] :: r := by
  have hl : 0 < s.data.toList.length := by rw [← Go.Lib.size_eq]; exact h
  refine ⟨s.data.toList.drop 1, ?_⟩
  rw [sget s 0 h]
  have := List.drop_eq_getElem_cons hl
  simpa using this
theorem fb_head {s : ByteArray} (h : 0 < s.size) : fb s.data.toList = if its s[0] then some (s[0], 1) else esc s.data.toList := by
  obtain ⟨r, e⟩ := head_of h
  generalize s[0] = c at *
  rw [e]; rfl

set_option maxRecDepth 100000 in
theorem firstByte_walk (s : ByteArray) (hs : 0 < s.size) (w : World) (hT : TabD w) : Calls Tryz.prog 52 #[.string s] w fun e w' => e = .returned (fbV s.data.toList) ∧ Up w w' := by
  have HT := Hid.of hT
  have HF := Hid.of (fb_head hs)
  clear hT
  go_enter Tryz.func52, Tryz.ntmps52
  go_wp2_with fail
  refine (itself_walk s[0] w).mono ?_
  rintro e w' ⟨rfl, hw⟩
  obtain rfl := hw.symm
  dsimp only
  cases hi : its s[0] with
  | true =>
    have HX := Hid.of (fbV_some (HF.out.trans (if_pos hi)))
    clear hi
    go_wp2
    go_ret2
    rw [HX.out]
    exact ⟨by simp, Up.refl _⟩
  | false =>
    have he : fb s.data.toList = esc s.data.toList := HF.out.trans (if_neg (by rw [hi]; simp))
    have HE := Hid.of he
    clear hi he
    by_cases h4 : s.size < 4
    · have HX := Hid.of (fbV_none (HE.out.trans (esc_short (by rw [← Go.Lib.size_eq]; exact h4))))
      go_wp2
      go_ret2
      rw [HX.out]
      exact ⟨rfl, Up.refl _⟩
    · have h4' : 4 ≤ s.size := by omega
      have h4l : 4 ≤ s.data.toList.length := by rw [← Go.Lib.size_eq]; exact h4'
      go_wp2_with fail
      refine (HasPrefix_walk s ⟨#[92, 120]⟩ w).mono ?_
      rintro e w' ⟨rfl, hw⟩
      obtain rfl := hw.symm
      dsimp only
      cases hp : Go.Lib.hasPrefix s.data.toList (⟨#[92, 120]⟩ : ByteArray).data.toList with
      | false =>
        have HX := Hid.of (fbV_none (HE.out.trans (esc_nopre hp)))
        clear hp
        go_wp2
        go_ret2
        rw [HX.out]
        exact ⟨rfl, Up.refl _⟩
      | true =>
        have hx := esc_pre hp h4l
        rw [← sget s 2 (by omega), ← sget s 3 (by omega)] at hx
        have b2 : (2 : Int) < (s.size : Int) := by omega
        have b3 : (3 : Int) < (s.size : Int) := by omega
        have c2 : 2 < s.size := by omega
        have c3 : 3 < s.size := by omega
        rcases bd_cases s[2] s[3] with ⟨x, eb, hb⟩ | ⟨n, eb, hb⟩
        · rw [hb] at hx
          simp only at hx
          have HX := Hid.of (And.intro eb (HE.out.trans hx))
          clear eb hb hx hp
          go_wp2_with fail
          go_quiet (exact (byteOfDigits_walk s[2] s[3] _ (by exact HT.out)).mono (fun e w' h => ⟨h.1.trans (congrArg Ending.returned HX.out.1), _, h.2⟩))
          go_wp2_with fail
          refine (itself_walk x _).mono ?_
          rintro e w' ⟨rfl, hw⟩
          obtain rfl := hw.symm
          dsimp only
          cases hi : its x with
          | true =>
            have HY := Hid.of (fbV_none (HX.out.2.trans (if_pos hi)))
            go_wp2
            go_ret2
            rw [HY.out]
            exact ⟨rfl, (Up.refl _).drewN _⟩
          | false =>
            have HY := Hid.of (fbV_some (HX.out.2.trans (if_neg (by rw [hi]; simp))))
            go_wp2
            go_ret2
            rw [HY.out]
            exact ⟨rfl, (Up.refl _).drewN _⟩
        · rw [hb] at hx
          simp only at hx
          have HX := Hid.of (And.intro eb (HE.out.trans hx))
          clear eb hb hx hp
          go_wp2_with fail
          go_quiet (exact (byteOfDigits_walk s[2] s[3] _ (by exact HT.out)).mono (fun e w' h => ⟨h.1.trans (congrArg Ending.returned HX.out.1), _, h.2⟩))
          go_wp2
          go_ret2
          rw [fbV_none HX.out.2]
          exact ⟨rfl, (Up.refl _).drewN _⟩
end Go.Proofs.YtbdmpdjhgjidlaaGreatDoor
