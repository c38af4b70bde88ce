import Derived.Test.YtaobnnlcfefodaaGreatDoorNm0
import Derived.Test.YtaobnnlcfefodaaGreatDoorSn
namespace Go.Proofs.YtaobnnlcfefodaaGreatDoor
open Go.RowKit TextNum

theorem IsSpace_runes (w : World) (hW : Go.Lib.WhiteTab 6 w) : PredAtRunes Tryz.prog 107 #[] Go.Lib.isSpaceR w := fun W x hx hb => by
  have c := Any.unicode_IsSpace_any_d Tryz.lays199 (x : Int) W (by omega) (by omega) (WhiteTab_below hW hb)
  rw [Go.Lib.isSpaceZ_nat] at c
  exact c
theorem CF_walk (s : ByteArray) (w : World) (hW : Go.Lib.WhiteTab 6 w) : Calls Tryz.prog 106 #[.string s, .func (.func 107) #[] #[]] w fun e w' => e = .returned (.bool (decide (0 ≤ Go.Lib.idxFunc Go.Lib.isSpaceR true s))) ∧ Up w w' :=
  Any.strings_ContainsFunc_runes Tryz.laysgw17 107 #[] (enters_of Tryz.func107 (by kernel_rfl) rfl) _ s w (IsSpace_runes w hW)
theorem WhiteTab_up {g : Nat} {w w' : World} (h : Go.Lib.WhiteTab g w) (hu : Up w w') : Go.Lib.WhiteTab g w' := WhiteTab_below h hu

theorem size_zero {s : ByteArray} (h : s.size = 0) : s = ⟨#[]⟩ := by
  obtain ⟨d⟩ := s
  have : d.size = 0 := h
  rw [Array.size_eq_zero_iff] at this
  subst this; rfl
theorem empty_no {s : ByteArray} (h : ¬ s.size = 0) : s.toList.isEmpty = false := by
  rw [Go.Lib.toList_data]
  cases hh : s.data.toList with
  | nil => rw [Go.Lib.size_eq, hh] at h; simp at h
  | cons a b => rfl
theorem name_bad {s : ByteArray} (h : s.size = 0 ∨ 100 < s.size ∨ plainR s ≠ 0 ∨ 0 ≤ Go.Lib.indexByte s.data.toList 43 ∨ 0 ≤ Go.Lib.idxFunc Go.Lib.isSpaceR true s) : nameR s = 70 := if_pos h

set_option maxRecDepth 100000 in
theorem CheckName_walk (s : ByteArray) (w : World) (hW : Go.Lib.WhiteTab 6 w) : Calls Tryz.prog 83 #[.string s] w fun e w' => e = .returned (.int .i64 (nameR s)) ∧ Up w w' := by
  by_cases h0 : s.size = 0
  · obtain rfl := size_zero h0
    have HN := Hid.of (name_bad (.inl h0))
    go_enter Tryz.func83, Tryz.ntmps83
    go_wp2
    go_ret
    rw [HN.out]
    exact ⟨rfl, Up.refl _⟩
  have e0 := empty_no h0
  by_cases h1 : 100 < s.size
  · have d1 : (100 : Int) < (s.size : Int) := by omega
    have HN := Hid.of (name_bad (.inr (.inl h1)))
    clear h1 h0
    go_enter Tryz.func83, Tryz.ntmps83
    go_wp2
    go_ret
    rw [HN.out]
    exact ⟨rfl, Up.refl _⟩
  have d1 : ¬ (100 : Int) < (s.size : Int) := by omega
  have H01 := Hid.of (And.intro h0 h1)
  clear h0 h1
  go_enter Tryz.func83, Tryz.ntmps83
  go_wp2_with fail
  refine (Plain_walk s w).mono ?_
  rintro e w1 ⟨rfl, hu1⟩
  have HU1 := Hid.of hu1
  clear hu1
  by_cases h2 : plainR s = 0
  · rw [h2]
    dsimp only
    go_wp2_with fail
    refine (Any.strings_Contains_one Tryz.lays144 s 43 w1).mono ?_
    rintro e w2 ⟨rfl, hw2⟩
    obtain rfl := hw2.symm
    dsimp only
    by_cases h3 : 0 ≤ Go.Lib.indexByte s.data.toList 43
    · have HN := Hid.of (name_bad (.inr (.inr (.inr (.inl h3)))))
      rw [decide_eq_true h3]
      clear h3
      go_wp2
      go_ret
      rw [HN.out]
      exact ⟨rfl, HU1.out⟩
    · rw [decide_eq_false h3]
      have H3 := Hid.of h3
      clear h3
      go_wp2_with fail
      refine (CF_walk s w1 (WhiteTab_up hW HU1.out)).mono ?_
      rintro e w2 ⟨rfl, hu2⟩
      have HU2 := Hid.of (HU1.out.trans hu2)
      clear hu2
      dsimp only
      by_cases h4 : 0 ≤ Go.Lib.idxFunc Go.Lib.isSpaceR true s
      · have HN := Hid.of (name_bad (.inr (.inr (.inr (.inr h4)))))
        rw [decide_eq_true h4]
        clear h4
        go_wp2
        go_ret
        rw [HN.out]
        exact ⟨rfl, HU2.out⟩
      · rw [decide_eq_false h4]
        have HN := Hid.of (show nameR s = 0 from if_neg (by
          rintro (h | h | h | h | h)
          · exact H01.out.1 h
          · exact H01.out.2 h
          · exact h h2
          · have := H3.out; omega
          · exact h4 h))
        clear h4
        go_wp2
        go_ret
        rw [HN.out]
        exact ⟨rfl, HU2.out⟩
  · have HN := Hid.of (name_bad (.inr (.inr (.inl h2))))
    have h2' : (plainR s == 0) = false := by simpa using h2
    generalize plainR s = pr at *
    go_wp2
    go_ret
    rw [HN.out]
    exact ⟨rfl, HU1.out⟩
end Go.Proofs.YtaobnnlcfefodaaGreatDoor
