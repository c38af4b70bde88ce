import Derived.Test.YtaobnnlcfefodaaGreatDoorNm
namespace Go.Proofs.YtaobnnlcfefodaaGreatDoor
open Go.RowKit TextNum
/-- the document's table of blanks -/
def BTab (w : World) : Prop := ∀ k, k < 19 → w.cell? ⟨1, k, none⟩ = some (.string ⟨(BLK.getD k []).toArray⟩)
theorem BTab.up {w w' : World} (h : BTab w) (hu : Up w w') : BTab w' := fun k hk => hu.cell (h k hk)

set_option maxRecDepth 100000 in
theorem holds_walk (s : ByteArray) (l : List UInt8) (hs : s.size ≤ 100) (hl : l.length ≤ 3) (w : World) : Calls Tryz.prog 55 #[.string s, .string ⟨l.toArray⟩] w fun e w' => ∃ b, e = .returned (.bool b) ∧ (b = true ↔ ∃ i, hold s l i) ∧ w' = w := by
  have hz : (⟨l.toArray⟩ : ByteArray).size = l.length := by simp [ByteArray.size]
  go_enter Tryz.func55, Tryz.ntmps55
  go_wp2
  go_loop [5] (fun v5 => ∃ i : Nat, v5 = .int .i64 (i : Int) ∧ i ≤ s.size + 1 ∧ Hid (∀ j, j < i → ¬ hold s l j)) (fun v5 => s.size + 1 - (intOf v5).toNat)
  case atStart => exact ⟨0, rfl, by omega, fun j hj => by omega⟩
  case round =>
    obtain ⟨i, rfl, hi, hI⟩ := hrel
    by_cases hlt : i + l.length ≤ s.size
    · have hlt' : (i : Int) + (l.length : Int) ≤ (s.size : Int) := by omega
      by_cases h1 : hold s l i
      · have c1 : s.extract i (i + l.length) = ⟨l.toArray⟩ := h1.2
        have HE := Hid.of h1
        clear h1
        go_wp2
        go_ret
        exact .inr ⟨rfl, ⟨i, HE.out⟩, rfl⟩
      · have c1 : ((s.extract i (i + l.length)).toList == l) = false := by
          rw [Go.Lib.toList_data]
          refine Bool.eq_false_iff.2 fun h => h1 ⟨hlt, ?_⟩
          exact ByteArray.ext (Array.toList_inj.1 (eq_of_beq h))
        have HE := Hid.of (show ∀ j, j < i + 1 → ¬ hold s l j from fun j hj hb => by
          by_cases e : j = i
          · subst e; exact h1 hb
          · exact hI.out j (by omega) hb)
        clear h1
        go_wp2
        go_round
        case rel => exact ⟨i + 1, by go_num, by omega, HE⟩
        case measure => simp [intOf]; omega
    · have hlt' : ¬ (i : Int) + (l.length : Int) ≤ (s.size : Int) := by omega
      have HE := Hid.of (show ∀ j, ¬ hold s l j from fun j hb => hI.out j (by have := hb.1; omega) hb)
      go_wp2
      go_ret
      exact .inl ⟨rfl, HE.out, rfl⟩

theorem BLK_len {k : Nat} (h : k < 19) : (BLK.getD k []).length ≤ 3 := by
  have : ∀ k : Fin 19, (BLK.getD k.1 []).length ≤ 3 := by decide
  exact this ⟨k, h⟩
theorem BLK_mem {l : List UInt8} (h : l ∈ BLK) : ∃ k, k < 19 ∧ BLK.getD k [] = l := by
  obtain ⟨k, hk, rfl⟩ := List.getElem_of_mem h
  exact ⟨k, hk, by rw [List.getD_eq_getElem?_getD, List.getElem?_eq_getElem hk]; rfl⟩
theorem mem_BLK {k : Nat} (h : k < 19) : BLK.getD k [] ∈ BLK := by
  rw [List.getD_eq_getElem?_getD, List.getElem?_eq_getElem (show k < BLK.length from h)]
  exact List.getElem_mem _
set_option maxRecDepth 100000 in
theorem RCheckName_walk (s : ByteArray) (w : World) (hB : BTab w) : Calls Tryz.prog 42 #[.string s] w fun e w' => e = .returned (.int .i64 (nameR s)) ∧ w' = w := by
  by_cases h0 : s.size = 0
  · have HN := Hid.of (name_bad (.inl h0))
    have d0 : (s.size : Int) < 1 := by omega
    clear h0
    go_enter Tryz.func42, Tryz.ntmps42
    go_wp2
    go_ret
    rw [HN.out]
    exact ⟨rfl, rfl⟩
  have d0 : ¬ (s.size : Int) < 1 := by omega
  by_cases h1 : 100 < s.size
  · have d1 : (100 : Int) < (s.size : Int) := by omega
    have HN := Hid.of (name_bad (.inr (.inl h1)))
    clear h1 h0
    go_enter Tryz.func42, Tryz.ntmps42
    go_wp2
    go_ret
    rw [HN.out]
    exact ⟨rfl, rfl⟩
  have d1 : ¬ (100 : Int) < (s.size : Int) := by omega
  have hs : s.size ≤ 100 := by omega
  have H01 := Hid.of (And.intro h0 h1)
  clear h0 h1
  go_enter Tryz.func42, Tryz.ntmps42
  go_wp2_with fail
  refine (RPlain_walk s w).mono ?_
  rintro e w1 ⟨rfl, hw1⟩
  obtain rfl := hw1.symm
  by_cases h2 : ¬ plainR s = 0
  · have HN := Hid.of (name_bad (.inr (.inr (.inl h2))))
    have h2' : (plainR s == 0) = false := by simpa using h2
    generalize plainR s = pr at *
    go_wp2
    go_ret
    rw [HN.out]
    exact ⟨rfl, rfl⟩
  replace h2 : plainR s = 0 := Decidable.not_not.1 h2
  rw [h2]
  have HP := Hid.of h2
  clear h2
  dsimp only
  go_wp2
  go_loop [3] (fun v3 => ∃ i : Nat, v3 = .int .i64 (i : Int) ∧ i ≤ s.size ∧ Hid (∀ j, j < i → ¬ (gb s j ≤ 32 ∨ gb s j = 43 ∨ gb s j = 127))) (fun v3 => s.size - (intOf v3).toNat)
  case atStart => exact ⟨0, rfl, by omega, fun j hj => by omega⟩
  case round =>
    obtain ⟨i, rfl, hi, hI⟩ := hrel
    by_cases hlt : i < s.size
    · have hlt' : (i : Int) < (s.size : Int) := by omega
      have hg := gb_get hlt
      have HJ := Hid.of (show ∀ k, k < s.size → (gb s k ≤ 32 ∨ gb s k = 43 ∨ gb s k = 127) → nameR s = 70 from fun k hk h => by
        rcases name_val s with h3 | h3
        · exact absurd h (((name_iff s).1 h3).2.2.2 k hk).1
        · exact h3)
      by_cases c1 : gb s i ≤ 32
      · have q1 : (s[i].toNat : Int) ≤ 32 := by omega
        have HN := Hid.of (HJ.out i hlt (.inl c1))
        clear c1 hg
        go_wp2
        go_ret
        rw [HN.out]
        exact ⟨rfl, rfl⟩
      · have q1 : ¬ (s[i].toNat : Int) ≤ 32 := by omega
        by_cases c2 : gb s i = 43
        · have q2 : ((s[i].toNat : Int) == 43) = true := by simp; omega
          have HN := Hid.of (HJ.out i hlt (.inr (.inl c2)))
          clear c1 c2 hg
          go_wp2
          go_ret
          rw [HN.out]
          exact ⟨rfl, rfl⟩
        · have q2 : ((s[i].toNat : Int) == 43) = false := by simp; omega
          by_cases c3 : gb s i = 127
          · have q3 : ((s[i].toNat : Int) == 127) = true := by simp; omega
            have HN := Hid.of (HJ.out i hlt (.inr (.inr c3)))
            clear c1 c2 c3 hg
            go_wp2
            go_ret
            rw [HN.out]
            exact ⟨rfl, rfl⟩
          · have q3 : ((s[i].toNat : Int) == 127) = false := by simp; omega
            have HE := Hid.of (show ∀ j, j < i + 1 → ¬ (gb s j ≤ 32 ∨ gb s j = 43 ∨ gb s j = 127) from fun j hj hb => by
              by_cases e : j = i
              · subst e; omega
              · exact hI.out j (by omega) hb)
            clear c1 c2 c3 hg
            go_wp2
            go_round
            case rel => exact ⟨i + 1, by go_num, by omega, HE⟩
            case measure => simp [intOf]; omega
    · have hlt' : ¬ (i : Int) < (s.size : Int) := by omega
      have HA := Hid.of (show ∀ j, j < s.size → ¬ (gb s j ≤ 32 ∨ gb s j = 43 ∨ gb s j = 127) from fun j hj => hI.out j (by omega))
      clear hI
      go_wp2
      go_loop [4] (fun v4 => ∃ k : Nat, v4 = .int .i64 (k : Int) ∧ k ≤ 19 ∧ Hid (∀ j, j < k → ∀ i, ¬ hold s (BLK.getD j []) i)) (fun v4 => 19 - (intOf v4).toNat)
      case atStart => exact ⟨0, rfl, by omega, fun j hj => by omega⟩
      case round =>
        obtain ⟨k, rfl, hk, hK⟩ := hrel
        by_cases hkl : k < 19
        · have hkl' : (k : Int) < 19 := by omega
          have hcell := hB k hkl
          have hL := BLK_len hkl
          have HM := Hid.of (mem_BLK hkl)
          generalize hl : BLK.getD k [] = l at *
          have HL := Hid.of hl
          clear hl
          go_wp2_with fail
          refine (holds_walk s l hs hL w).mono ?_
          rintro e w2 ⟨b, rfl, hb, hw2⟩
          obtain rfl := hw2.symm
          have HB := Hid.of hb
          clear hb
          dsimp only
          cases b with
          | true =>
            have HN := Hid.of (show nameR s = 70 by
              obtain ⟨i, hi⟩ := HB.out.1 rfl
              rcases name_val s with h3 | h3
              · have hbk := (hold_blk s i).1 ⟨l, HM.out, hi⟩
                have hib : i < s.size := gb_pos (by have := blkN_lead hbk; omega)
                exact absurd hbk (((name_iff s).1 h3).2.2.2 i hib).2
              · exact h3)
            go_wp2
            go_ret
            rw [HN.out]
            exact ⟨rfl, rfl⟩
          | false =>
            have HE := Hid.of (show ∀ j, j < k + 1 → ∀ i, ¬ hold s (BLK.getD j []) i from fun j hj i hb => by
              by_cases e : j = k
              · subst e; rw [HL.out] at hb; exact absurd (HB.out.2 ⟨i, hb⟩) (by simp)
              · exact hK.out j (by omega) i hb)
            go_wp2
            go_round
            case rel => exact ⟨k + 1, by go_num, by omega, HE⟩
            case measure => simp [intOf]; omega
        · have hkl' : ¬ (k : Int) < 19 := by omega
          have HN := Hid.of (show nameR s = 0 from (name_iff s).2 ⟨by have := H01.out.1; omega, hs, HP.out, fun i hi => ⟨HA.out i hi, fun hb => by
            obtain ⟨l, hl, hh⟩ := (hold_blk s i).2 hb
            obtain ⟨j, hj, rfl⟩ := BLK_mem hl
            exact hK.out j (by omega) i hh⟩⟩)
          go_wp2
          go_ret
          rw [HN.out]
          exact ⟨rfl, rfl⟩
end Go.Proofs.YtaobnnlcfefodaaGreatDoor
