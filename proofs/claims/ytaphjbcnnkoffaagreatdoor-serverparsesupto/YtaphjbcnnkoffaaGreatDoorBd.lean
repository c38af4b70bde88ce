import Derived.Test.YtaphjbcnnkoffaaGreatDoorBl
import Derived.Test.YtaphjbcnnkoffaaGreatDoorSf
namespace Go.Proofs.YtaphjbcnnkoffaaGreatDoor
open Go.RowKit TextNum

def b64R (l : List UInt8) : List UInt8 × Int := if 1048576 < l.length then ([], 2) else match b64D l with
  | some x => (x, 0)
  | none => ([], 60)
theorem b64R_long {l : List UInt8} (h : 1048576 < l.length) : b64R l = ([], 2) := if_pos h
theorem b64R_some {l x : List UInt8} (h : ¬ 1048576 < l.length) (hx : b64D l = some x) : b64R l = (x, 0) := by unfold b64R; rw [if_neg h, hx]
theorem b64R_none {l : List UInt8} (h : ¬ 1048576 < l.length) (hx : b64D l = none) : b64R l = ([], 60) := by unfold b64R; rw [if_neg h, hx]
theorem trim_strip (l : List UInt8) : Go.Lib.trimSuffix l [61] = strip1 l := by
  unfold Go.Lib.trimSuffix strip1 Go.Lib.hasSuffix
  rcases List.eq_nil_or_concat l with rfl | ⟨t, c, rfl⟩
  · simp [List.isSuffixOf]
  · rw [List.concat_eq_append]
    by_cases h : c = 61
    · subst h
      have h1 : [61].isSuffixOf (t ++ [61]) = true := by rw [List.isSuffixOf_iff_suffix]; exact List.suffix_append _ _
      rw [if_pos h1]
      simp
    · have h1 : ¬ [61].isSuffixOf (t ++ [c]) = true := by
        rw [List.isSuffixOf_iff_suffix]
        rintro ⟨u, hu⟩
        have := congrArg List.getLast? hu
        simp at this
        exact h this.symm
      rw [if_neg h1]
      simp [h]
theorem strip1_len (l : List UInt8) : (strip1 l).length ≤ l.length := by unfold strip1; split <;> simp
theorem dataList (m : List UInt8) : (⟨m.toArray⟩ : ByteArray).data.toList = m := by simp
set_option maxRecDepth 100000 in
theorem withoutPadding_walk (s : ByteArray) (hs : s.size ≤ 1048576) (w : World) : Calls Tryz.prog 120 #[.string s] w fun e w' => e = .returned (vs (strip1 (strip1 s.data.toList))) ∧ w' = w := by
  have HT1 := Hid.of (trim_strip s.data.toList)
  have hl : (⟨(strip1 s.data.toList).toArray⟩ : ByteArray).size ≤ 9223372036854775807 := by
    rw [Go.Lib.size_eq, dataList]; have := strip1_len s.data.toList; rw [← Go.Lib.size_eq] at this; omega
  have HL := Hid.of hl
  clear hl
  go_enter Tryz.func120, Tryz.ntmps120
  go_wp2_with fail
  refine (TrimSuffix_walk s ⟨#[61]⟩ w (by omega)).mono ?_
  rintro e w' ⟨rfl, hw⟩
  obtain rfl := hw.symm
  dsimp only
  rw [HT1.out]
  go_wp2_with fail
  refine (TrimSuffix_walk ⟨(strip1 s.data.toList).toArray⟩ ⟨#[61]⟩ w HL.out).mono ?_
  rintro e w' ⟨rfl, hw⟩
  obtain rfl := hw.symm
  dsimp only
  rw [trim_strip]
  go_wp2
  go_ret
  exact ⟨rfl, rfl⟩

set_option maxRecDepth 100000 in
theorem DecodeBase64_walk (s : ByteArray) (w : World) (hT : TabL w) :
    Calls Tryz.prog 84 #[.string s] w fun e w' => ∃ v, e = .returned (.tuple #[v, .int .i64 (b64R s.data.toList).2]) ∧ Own w' w.heap.size v (b64R s.data.toList).1 ∧ Up w w' := by
  have HT := Hid.of hT
  clear hT
  have HS := Hid.of (Go.Lib.size_eq s)
  go_enter Tryz.func84, Tryz.ntmps84
  go_wp2_with fail
  refine (tooLong_walk s w).mono ?_
  rintro e w' ⟨rfl, hw⟩
  obtain rfl := hw.symm
  dsimp only
  by_cases h1 : 1048576 < s.size
  · have d1 : decide (1048576 < s.size) = true := by simpa using h1
    rw [d1]
    go_wp2
    go_ret2
    rw [b64R_long (by rw [← HS.out]; exact h1)]
    exact ⟨_, rfl, own_nil _ _, Up.refl _⟩
  · have d1 : decide (1048576 < s.size) = false := by simpa using h1
    rw [d1]
    have hle : s.size ≤ 1048576 := by omega
    have HN := Hid.of (show ¬ 1048576 < s.data.toList.length by rw [← HS.out]; exact h1)
    clear d1 h1
    by_cases h2 : s.size % 4 = 0
    · have d2 : ((s.size : Int) % 4) = 0 := by omega
      have HD := Hid.of (show b64D s.data.toList = dl 0 0 (strip1 (strip1 s.data.toList)) from if_pos (by rw [← HS.out]; exact h2))
      clear h2
      go_wp2_with fail
      refine (withoutPadding_walk s hle w).mono ?_
      rintro e w' ⟨rfl, hw⟩
      obtain rfl := hw.symm
      dsimp only
      go_wp2_with fail
      refine (bytesOfLetters_walk ⟨(strip1 (strip1 s.data.toList)).toArray⟩ (by rw [Go.Lib.size_eq, dataList]; have h1 := strip1_len s.data.toList; have h2 := strip1_len (strip1 s.data.toList); rw [← HS.out] at h1; omega) w HT.out).mono ?_
      rintro e w2 ⟨v, rfl, h3, u3⟩
      rw [dataList] at h3 ⊢
      rw [← HD.out] at h3 ⊢
      dsimp only
      cases hb : b64D s.data.toList with
      | none =>
        rw [show (none : Option (List UInt8)).isSome = false from rfl]
        have HU := Hid.of u3
        have HB := Hid.of (b64R_none HN.out hb)
        clear h3 u3 hb
        go_wp2
        go_ret2
        rw [HB.out]
        exact ⟨_, rfl, own_nil _ _, HU.out⟩
      | some x =>
        rw [show (some x).isSome = true from rfl]
        have HU := Hid.of (And.intro u3 (h3 x hb))
        have HB := Hid.of (b64R_some HN.out hb)
        clear h3 u3 hb
        go_wp2
        go_ret2
        rw [HB.out]
        exact ⟨_, rfl, HU.out.2, HU.out.1⟩
    · have d2 : ((s.size : Int) % 4 == 0) = false := by simp; omega
      have d3 : ((s.size : Int) % 4 != 0) = true := by simp; omega
      have HF := Hid.of (b64R_none HN.out (show b64D s.data.toList = none from if_neg (by rw [← HS.out]; exact h2)))
      clear h2
      go_wp2
      go_ret2
      rw [HF.out]
      exact ⟨_, rfl, own_nil _ _, Up.refl _⟩
end Go.Proofs.YtaphjbcnnkoffaaGreatDoor
