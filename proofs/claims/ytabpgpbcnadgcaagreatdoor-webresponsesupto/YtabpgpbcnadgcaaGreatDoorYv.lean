import Derived.Test.YtabpgpbcnadgcaaGreatDoorYl
import Derived.Test.YtabpgpbcnadgcaaGreatDoorYu
namespace Go.Proofs.YtabpgpbcnadgcaaGreatDoor
open Go.RowKit TextNum
/-- what was short may be longer -/
theorem cutL_short {m : Nat} {l t ln : List UInt8} {k : Nat} (h : cutL m l = .error 2) (h2 : cutL m (l ++ t) = .ok (ln, k)) : l.length < k := by
  rcases Nat.lt_or_ge l.length k with h3 | h3
  · exact h3
  · exfalso
    unfold cutL at h h2
    cases hf : fnl ((l ++ t).take (m + 2)) with
    | none => rw [hf] at h2; dsimp only at h2; split at h2 <;> cases h2
    | some i =>
      rw [hf] at h2
      dsimp only at h2
      split at h2
      · cases h2
      · injection h2 with h2
        injection h2 with e1 e2
        have hi : i < l.length := by omega
        cases hg : fnl (l.take (m + 2)) with
        | some j =>
          rw [hg] at h
          dsimp only at h
          split at h
          · cases h
          · cases h
        | none =>
          unfold fnl at hf hg
          obtain ⟨hlt, hb, _⟩ := List.findIdx?_eq_some_iff_getElem.1 hf
          rw [List.findIdx?_eq_none_iff] at hg
          rw [List.length_take] at hlt
          have : (l.take (m + 2))[i]? = some 10 := by
            have h4 : ((l ++ t).take (m + 2))[i]? = some 10 := by
              rw [List.getElem?_eq_getElem (by rw [List.length_take]; exact hlt)]
              simpa using hb
            rw [List.getElem?_take] at h4 ⊢
            split at h4
            · rename_i h5
              rw [if_pos h5]
              rw [List.getElem?_append_left hi] at h4
              exact h4
            · cases h4
          have := hg _ (List.mem_of_getElem? this)
          simp at this
theorem mfl_short (t : List UInt8) : ∀ (f : Nat) (l : List UInt8) (p : Nat × Nat), l.length < f → mfl f l = none → mfl f (l ++ t) = some p → (∃ s k ln, cutL 16384 (l.drop s) = .error 1 ∧ s ≤ l.length ∧ k = s ∧ ln = ([] : List UInt8)) ∨ l.length < p.2
  | 0, _, _, hl, _, _ => absurd hl (by omega)
  | f + 1, l, p, hl, h, h2 => by
    unfold mfl at h h2
    cases hc : cutL 16384 l with
    | error k =>
      rcases cutL_er hc with rfl | rfl
      · exact .inl ⟨0, 0, [], by simpa using hc, by omega, rfl, rfl⟩
      · right
        cases hc2 : cutL 16384 (l ++ t) with
        | error k => rw [hc2] at h2; cases h2
        | ok q =>
          obtain ⟨ln, k⟩ := q
          rw [hc2] at h2
          have h3 := cutL_short hc hc2
          dsimp only at h2
          split at h2
          · injection h2 with h2; subst h2; exact h3
          · obtain ⟨p', h4, rfl⟩ := Option.map_eq_some_iff.1 h2
            dsimp only; omega
    | ok q =>
      obtain ⟨ln, k⟩ := q
      have h1 := cutL_ok hc
      rw [cutL_more (by rw [hc]; intro e; cases e), hc] at h2
      rw [hc] at h
      dsimp only at h h2
      split at h
      · cases h
      · rename_i hne
        rw [if_neg hne, List.drop_append_of_le_length h1.2.1] at h2
        obtain ⟨p', h4, rfl⟩ := Option.map_eq_some_iff.1 h2
        rw [Option.map_eq_none_iff] at h
        rcases mfl_short t f (l.drop k) p' (by rw [List.length_drop]; omega) h h4 with ⟨s, k', ln', e1, e2, _, _⟩ | h5
        · left
          rw [List.drop_drop] at e1
          rw [List.length_drop] at e2
          exact ⟨k + s, k + s, [], e1, by omega, rfl, rfl⟩
        · right
          rw [List.length_drop] at h5
          dsimp only; omega
theorem cutL_far {l : List UInt8} (h : l.length ≤ 16384) : cutL 16384 l ≠ .error 1 := by
  unfold cutL
  intro h2
  cases hf : fnl (l.take (16384 + 2)) with
  | none => rw [hf] at h2; dsimp only at h2; rw [if_pos (by omega)] at h2; injection h2 with h2; omega
  | some i =>
    rw [hf] at h2
    dsimp only at h2
    have h3 := tcr_len (l.take i)
    rw [List.length_take] at h3
    rw [if_neg (by omega)] at h2
    cases h2
theorem mF_short {l t : List UInt8} {p : Nat × Nat} (h : mF l = .error 2) (h2 : mF (l ++ t) = .ok p) : l.length < p.2 := by
  unfold mF at h h2
  cases hm : mfl (l.length + 1) (l.take 16384) with
  | some q => rw [hm] at h; cases h
  | none =>
    rw [hm] at h
    dsimp only at h
    split at h
    · injection h with h; omega
    · rename_i hl
      have hlt : l.take 16384 = l := List.take_of_length_le (by omega)
      rw [hlt] at hm
      cases hm2 : mfl ((l ++ t).length + 1) ((l ++ t).take 16384) with
      | none => rw [hm2] at h2; dsimp only at h2; split at h2 <;> cases h2
      | some q =>
        rw [hm2] at h2
        injection h2 with h2
        subst h2
        rw [List.take_append, hlt] at hm2
        have hf := mfl_fuel (l.length + 1) ((l ++ t).length + 1) l (by omega) (by rw [List.length_append]; omega)
        rw [hf] at hm
        rcases mfl_short _ _ _ _ (by rw [List.length_append]; omega) hm hm2 with ⟨s, _, _, e1, e2, _, _⟩ | h5
        · exact absurd e1 (cutL_far (by rw [List.length_drop]; omega))
        · exact h5
theorem cHd_short {pl : Nat} {l t : List UInt8} {st fl : List UInt8} {k : Nat} (h : cHd pl l = .error 2) (h2 : cHd pl (l ++ t) = .ok (st, fl, k)) : l.length < k := by
  unfold cHd at h h2
  cases hc : cutL 8000 l with
  | error e =>
    rw [hc] at h
    dsimp only at h
    rcases cutL_er hc with rfl | rfl
    · injection h with h; simp at h; omega
    · cases hc2 : cutL 8000 (l ++ t) with
      | error e => rw [hc2] at h2; cases h2
      | ok q =>
        obtain ⟨s, q⟩ := q
        have h3 := cutL_short hc hc2
        rw [hc2] at h2
        dsimp only at h2
        split at h2
        · cases h2
        · injection h2 with h2
          injection h2 with e1 e2
          injection e2 with e2 e3
          omega
  | ok q =>
    obtain ⟨s, q⟩ := q
    have h1 := cutL_ok hc
    rw [cutL_more (by rw [hc]; intro e; cases e), hc] at h2
    rw [hc] at h
    dsimp only at h h2
    rw [List.drop_append_of_le_length h1.2.1] at h2
    cases hm : mF (l.drop q) with
    | ok p => rw [hm] at h; cases h
    | error e =>
      rw [hm] at h
      injection h with h
      subst h
      cases hm2 : mF (l.drop q ++ t) with
      | error e => rw [hm2] at h2; cases h2
      | ok p =>
        rw [hm2] at h2
        have h3 := mF_short hm hm2
        injection h2 with h2
        injection h2 with e1 e2
        injection e2 with e2 e3
        rw [List.length_drop] at h3
        omega
theorem cHd_ok {pl : Nat} {l st fl : List UInt8} {k : Nat} (h : cHd pl l = .ok (st, fl, k)) : 0 < k ∧ k ≤ l.length ∧ st.length ≤ 8000 ∧ fl.length ≤ 16384 ∧ fl.length ≤ l.length := by
  unfold cHd at h
  cases hc : cutL 8000 l with
  | error e => rw [hc] at h; cases h
  | ok q =>
    obtain ⟨s, q⟩ := q
    have h1 := cutL_ok hc
    rw [hc] at h
    dsimp only at h
    cases hm : mF (l.drop q) with
    | error e => rw [hm] at h; cases h
    | ok p =>
      obtain ⟨f, a⟩ := p
      rw [hm] at h
      have h2 := mF_ok hm
      have h4 : a ≤ 16384 := by
        unfold mF at hm
        split at hm
        · rename_i p hp
          injection hm with hm
          subst hm
          have := mfl_ok _ _ _ hp
          rw [List.length_take] at this
          dsimp only at this
          omega
        · split at hm <;> cases hm
      injection h with h
      injection h with e1 e2
      injection e2 with e2 e3
      rw [List.length_drop] at h2
      dsimp only at h2
      subst e1 e2 e3
      refine ⟨by omega, by omega, h1.2.2.2.2, ?_, ?_⟩
      · rw [List.length_take]; omega
      · rw [List.length_take, List.length_drop]; omega
theorem cHd_er {pl : Nat} {l : List UInt8} {k : Nat} (h : cHd pl l = .error k) : k = 12 + pl ∨ k = 1 ∨ k = 2 := by
  unfold cHd at h
  cases hc : cutL 8000 l with
  | error e =>
    rw [hc] at h
    dsimp only at h
    injection h with h
    rcases cutL_er hc with rfl | rfl
    · simp at h; omega
    · simp at h; omega
  | ok q =>
    obtain ⟨s, q⟩ := q
    rw [hc] at h
    dsimp only at h
    cases hm : mF (l.drop q) with
    | ok p => rw [hm] at h; cases h
    | error e =>
      rw [hm] at h
      injection h with h
      subst h
      unfold mF at hm
      split at hm
      · cases hm
      · split at hm
        · injection hm with hm; omega
        · injection hm with hm; omega
theorem cCk_short {s : Nat} {l t d r : List UInt8} (h : cCk s l = .error 2) (h2 : cCk s (l ++ t) = .ok (d, r)) : r.length < t.length := by
  unfold cCk at h h2
  by_cases hl : l.length < s
  · split at h2
    · cases h2
    · rename_i h3
      split at h2
      · cases h2
      · rename_i x r' ht
        split at h2
        · injection h2 with h2
          injection h2 with e1 e2
          subst e2
          have h4 : (tpr ((l ++ t).drop s)).length ≤ (l ++ t).length - s := by
            rw [← List.length_drop]
            unfold tpr
            split
            · rw [List.length_drop]; omega
            · exact Nat.le_refl _
          rw [ht, List.length_cons, List.length_append] at h4
          omega
        · cases h2
  · rw [if_neg hl] at h
    have hl2 : ¬ (l ++ t).length < s := by rw [List.length_append]; omega
    rw [if_neg hl2, List.drop_append_of_le_length (by omega)] at h2
    cases hx : tpr (l.drop s) with
    | cons x q => rw [hx] at h; dsimp only at h; split at h <;> cases h
    | nil =>
      have h5 : l.drop s = [] ∨ l.drop s = [13] := by
        unfold tpr at hx
        split at hx
        · rename_i h6
          cases hd : l.drop s with
          | nil => exact .inl rfl
          | cons a b =>
            rw [hd] at h6 hx
            simp at h6 hx
            right
            rw [h6, hx]
        · exact .inl hx
      have h6 : (tpr (l.drop s ++ t)).length ≤ t.length := by
        rcases h5 with h5 | h5
        · rw [h5, List.nil_append]
          unfold tpr
          split
          · rw [List.length_drop]; omega
          · exact Nat.le_refl _
        · rw [h5]
          simp [tpr]
      split at h2
      · cases h2
      · rename_i x r' ht
        split at h2
        · injection h2 with h2
          injection h2 with e1 e2
          subst e2
          rw [ht, List.length_cons] at h6
          omega
        · cases h2
theorem unc_more (t : List UInt8) : ∀ (f : Nat) (b l : List UInt8), l.length < f → unc f b l ≠ .error 2 → unc f b (l ++ t) = match unc f b l with | .ok (x, r) => .ok (x, r ++ t) | .error e => .error e
  | 0, _, _, h, _ => absurd h (by omega)
  | f + 1, b, l, hl, h => by
    rw [unc] at h
    rw [unc, unc]
    cases hc : cutL 256 l with
    | error k =>
      rw [hc] at h
      rcases cutL_er hc with rfl | rfl
      · rw [cutL_more (by rw [hc]; intro e; injection e with e; omega), hc]
      · exact absurd rfl h
    | ok p =>
      obtain ⟨ln, k⟩ := p
      have h1 := cutL_ok hc
      rw [hc] at h
      rw [cutL_more (by rw [hc]; intro e; cases e), hc]
      dsimp only at h ⊢
      cases hz : cSz ln with
      | error e => rfl
      | ok z =>
        rw [hz] at h
        dsimp only at h ⊢
        split
        · rfl
        · rename_i hzb
          rw [if_neg hzb] at h
          rw [List.drop_append_of_le_length h1.2.1]
          cases hd : cCk z (l.drop k) with
          | error e =>
            rw [hd] at h
            rw [cCk_more (by rw [hd]; intro e2; injection e2 with e2; subst e2; exact h rfl), hd]
          | ok q =>
            obtain ⟨d, r⟩ := q
            have h2 := cCk_ok hd
            rw [List.length_drop] at h2
            rw [hd] at h
            rw [cCk_more (by rw [hd]; intro e2; cases e2), hd]
            dsimp only at h ⊢
            split
            · rfl
            · rename_i hz0
              rw [if_neg hz0] at h
              exact unc_more t f (b ++ d) r (by omega) h
theorem unc_short (t : List UInt8) : ∀ (f : Nat) (b l x r : List UInt8), l.length < f → unc f b l = .error 2 → unc f b (l ++ t) = .ok (x, r) → r.length < t.length
  | 0, _, _, _, _, h, _, _ => absurd h (by omega)
  | f + 1, b, l, x, r, hl, h, h2 => by
    have hgen : ∀ (f : Nat) (b l x r : List UInt8), unc f b l = .ok (x, r) → r.length < l.length := by
      intro f
      induction f with
      | zero => intro b l x r h; cases h
      | succ f ih =>
        intro b l x r h
        rw [unc] at h
        cases hc : cutL 256 l with
        | error k => rw [hc] at h; cases h
        | ok p =>
          obtain ⟨ln, k⟩ := p
          have h1 := cutL_ok hc
          rw [hc] at h
          dsimp only at h
          cases hz : cSz ln with
          | error e => rw [hz] at h; cases h
          | ok z =>
            rw [hz] at h
            dsimp only at h
            split at h
            · cases h
            · cases hd : cCk z (l.drop k) with
              | error e => rw [hd] at h; cases h
              | ok q =>
                obtain ⟨d, r2⟩ := q
                have h3 := cCk_ok hd
                rw [List.length_drop] at h3
                rw [hd] at h
                dsimp only at h
                split at h
                · injection h with h
                  injection h with e1 e2
                  subst e2
                  omega
                · have := ih _ _ _ _ h
                  omega
    rw [unc] at h h2
    cases hc : cutL 256 l with
    | error k =>
      rw [hc] at h
      dsimp only at h
      rcases cutL_er hc with rfl | rfl
      · injection h with h; simp at h
      · cases hc2 : cutL 256 (l ++ t) with
        | error k => rw [hc2] at h2; cases h2
        | ok p =>
          obtain ⟨ln, k⟩ := p
          have h3 := cutL_short hc hc2
          have h1 := cutL_ok hc2
          rw [List.length_append] at h1
          rw [hc2] at h2
          dsimp only at h2
          cases hz : cSz ln with
          | error e => rw [hz] at h2; cases h2
          | ok z =>
            rw [hz] at h2
            dsimp only at h2
            split at h2
            · cases h2
            · cases hd : cCk z ((l ++ t).drop k) with
              | error e => rw [hd] at h2; cases h2
              | ok q =>
                obtain ⟨d, r2⟩ := q
                have h4 := cCk_ok hd
                rw [List.length_drop, List.length_append] at h4
                rw [hd] at h2
                dsimp only at h2
                split at h2
                · injection h2 with h2
                  injection h2 with e1 e2
                  subst e2
                  omega
                · have := hgen _ _ _ _ _ h2
                  omega
    | ok p =>
      obtain ⟨ln, k⟩ := p
      have h1 := cutL_ok hc
      rw [cutL_more (by rw [hc]; intro e; cases e), hc] at h2
      rw [hc] at h
      dsimp only at h h2
      cases hz : cSz ln with
      | error e => rw [hz] at h; injection h with h; have := cSz_er hz; omega
      | ok z =>
        rw [hz] at h h2
        dsimp only at h h2
        split at h
        · injection h with h; omega
        · rename_i hzb
          rw [if_neg hzb, List.drop_append_of_le_length h1.2.1] at h2
          cases hd : cCk z (l.drop k) with
          | error e =>
            rw [hd] at h
            injection h with h
            subst h
            cases hd2 : cCk z (l.drop k ++ t) with
            | error e => rw [hd2] at h2; cases h2
            | ok q =>
              obtain ⟨d, r2⟩ := q
              have h4 := cCk_short hd hd2
              rw [hd2] at h2
              dsimp only at h2
              split at h2
              · injection h2 with h2
                injection h2 with e1 e2
                subst e2
                exact h4
              · have := hgen _ _ _ _ _ h2
                omega
          | ok q =>
            obtain ⟨d, r2⟩ := q
            have h3 := cCk_ok hd
            rw [List.length_drop] at h3
            rw [cCk_more (by rw [hd]; intro e2; cases e2), hd] at h2
            rw [hd] at h
            dsimp only at h h2
            split at h
            · cases h
            · rename_i hz0
              rw [if_neg hz0] at h2
              exact unc_short t f _ _ _ _ (by omega) h h2
theorem unc_rest : ∀ (f : Nat) (b l x r : List UInt8), unc f b l = .ok (x, r) → r.length < l.length ∧ x.length ≤ 1048576
  | 0, _, _, _, _, h => by cases h
  | f + 1, b, l, x, r, h => by
    rw [unc] at h
    cases hc : cutL 256 l with
    | error k => rw [hc] at h; cases h
    | ok p =>
      obtain ⟨ln, k⟩ := p
      have h1 := cutL_ok hc
      rw [hc] at h
      dsimp only at h
      cases hz : cSz ln with
      | error e => rw [hz] at h; cases h
      | ok z =>
        rw [hz] at h
        dsimp only at h
        split at h
        · cases h
        · rename_i hzb
          cases hd : cCk z (l.drop k) with
          | error e => rw [hd] at h; cases h
          | ok q =>
            obtain ⟨d, r2⟩ := q
            have h3 := cCk_ok hd
            rw [List.length_drop] at h3
            rw [hd] at h
            dsimp only at h
            split at h
            · injection h with h
              injection h with e1 e2
              subst e1 e2
              refine ⟨by omega, ?_⟩
              rw [List.length_append]; omega
            · have := unc_rest f _ _ _ _ h
              exact ⟨by omega, this.2⟩
theorem unk_more {l t : List UInt8} (h : unk l ≠ .error 2) : unk (l ++ t) = unk l := by
  unfold unk at *
  have hf := unc_fuel (l.length + 1) ((l ++ t).length + 1) [] l (by omega) (by rw [List.length_append]; omega)
  rw [hf] at h ⊢
  have hm := unc_more t ((l ++ t).length + 1) [] l (by rw [List.length_append]; omega)
  cases hu : unc ((l ++ t).length + 1) [] l with
  | error e =>
    rw [hu] at h hm
    rw [hm (fun e2 => by injection e2 with e2; subst e2; exact h rfl)]
  | ok p =>
    obtain ⟨x, r⟩ := p
    rw [hu] at hm
    rw [hm (fun e2 => by cases e2)]
    dsimp only
    have := (unc_rest _ _ _ _ _ hu).1
    rw [List.length_append, List.length_append, show l.length + t.length - (r.length + t.length) = l.length - r.length by omega]
theorem unk_short {l t x : List UInt8} {n : Nat} (h : unk l = .error 2) (h2 : unk (l ++ t) = .ok (x, n)) : l.length < n := by
  unfold unk at *
  have hf := unc_fuel (l.length + 1) ((l ++ t).length + 1) [] l (by omega) (by rw [List.length_append]; omega)
  rw [hf] at h
  cases hu : unc ((l ++ t).length + 1) [] l with
  | ok p => rw [hu] at h; cases h
  | error e =>
    rw [hu] at h
    injection h with h
    subst h
    cases hu2 : unc ((l ++ t).length + 1) [] (l ++ t) with
    | error e => rw [hu2] at h2; cases h2
    | ok p =>
      obtain ⟨x', r⟩ := p
      have h3 := unc_short t _ _ _ _ _ (by rw [List.length_append]; omega) hu hu2
      rw [hu2] at h2
      injection h2 with h2
      injection h2 with e1 e2
      rw [List.length_append] at e2
      omega
theorem unk_len {l x : List UInt8} {n : Nat} (h : unk l = .ok (x, n)) : n ≤ l.length ∧ x.length ≤ 1048576 := by
  unfold unk at h
  split at h
  · cases h
  · rename_i b r hu
    injection h with h
    injection h with e1 e2
    have := unc_rest _ _ _ _ _ hu
    subst e1
    exact ⟨by omega, this.2⟩
theorem fcu_more {way : Int} {len : Nat} {l t : List UInt8} (hw : way ≠ 1) (h : fcu way len l ≠ .error 2) : fcu way len (l ++ t) = fcu way len l := by
  unfold fcu at *
  by_cases h3 : way = 3
  · rw [if_pos h3] at h ⊢
    rw [if_pos h3]
    cases hu : unk l with
    | ok p => rw [unk_more (by rw [hu]; intro e; cases e), hu]
    | error k =>
      rw [hu] at h
      rw [unk_more (by rw [hu]; intro e; injection e with e; subst e; exact h rfl), hu]
  · rw [if_neg h3, if_neg hw] at h ⊢
    rw [if_neg h3, if_neg hw]
    by_cases h2 : way = 2
    · rw [if_pos h2] at h ⊢
      rw [if_pos h2]
      by_cases hl : l.length < len
      · rw [if_pos hl] at h; exact absurd rfl h
      · rw [if_neg hl, if_neg (by rw [List.length_append]; omega), List.take_append_of_le_length (by omega)]
    · rw [if_neg h2, if_neg h2]
theorem fcu_short {way : Int} {len : Nat} {l t x : List UInt8} {n : Nat} (h : fcu way len l = .error 2) (h2 : fcu way len (l ++ t) = .ok (x, n)) : l.length < n := by
  unfold fcu at *
  by_cases h3 : way = 3
  · rw [if_pos h3] at h h2
    cases hu : unk l with
    | ok p => rw [hu] at h; cases h
    | error k =>
      rw [hu] at h
      dsimp only at h
      injection h with h
      have hk : k = 2 := by
        split at h
        · omega
        · exact h
      subst hk
      cases hu2 : unk (l ++ t) with
      | error k => rw [hu2] at h2; cases h2
      | ok p =>
        rw [hu2] at h2
        injection h2 with h2
        subst h2
        exact unk_short hu hu2
  · rw [if_neg h3] at h h2
    by_cases h1 : way = 1
    · rw [if_pos h1] at h
      split at h
      · injection h with h; omega
      · cases h
    · rw [if_neg h1] at h h2
      by_cases hw2 : way = 2
      · rw [if_pos hw2] at h h2
        split at h
        · rename_i hl
          split at h2
          · cases h2
          · injection h2 with h2
            injection h2 with e1 e2
            omega
        · cases h
      · rw [if_neg hw2] at h
        cases h
theorem fcu_len {way : Int} {len : Nat} {l x : List UInt8} {n : Nat} (h : fcu way len l = .ok (x, n)) : n ≤ l.length ∧ x.length ≤ l.length := by
  unfold fcu at h
  split at h
  · cases hu : unk l with
    | error k => rw [hu] at h; cases h
    | ok p =>
      rw [hu] at h
      injection h with h
      subst h
      have := unk_len hu
      refine ⟨this.1, ?_⟩
      unfold unk at hu
      split at hu
      · cases hu
      · rename_i b r hun
        injection hu with hu
        injection hu with e1 e2
        subst e1
        have hgen : ∀ (f : Nat) (b l x r : List UInt8), unc f b l = .ok (x, r) → x.length + r.length ≤ b.length + l.length := by
          intro f
          induction f with
          | zero => intro b l x r h; cases h
          | succ f ih =>
            intro b l x r h
            rw [unc] at h
            cases hc : cutL 256 l with
            | error k => rw [hc] at h; cases h
            | ok p =>
              obtain ⟨ln, k⟩ := p
              have h1 := cutL_ok hc
              rw [hc] at h
              dsimp only at h
              cases hz : cSz ln with
              | error e => rw [hz] at h; cases h
              | ok z =>
                rw [hz] at h
                dsimp only at h
                split at h
                · cases h
                · cases hd : cCk z (l.drop k) with
                  | error e => rw [hd] at h; cases h
                  | ok q =>
                    obtain ⟨d, r2⟩ := q
                    have h3 := cCk_ok hd
                    rw [List.length_drop] at h3
                    rw [hd] at h
                    dsimp only at h
                    split at h
                    · injection h with h
                      injection h with e1 e2
                      subst e1 e2
                      rw [List.length_append]
                      omega
                    · have := ih _ _ _ _ h
                      rw [List.length_append] at this
                      omega
        have := hgen _ _ _ _ _ hun
        simp only [List.length_nil] at this
        omega
  · split at h
    · split at h
      · cases h
      · injection h with h; injection h with e1 e2; subst e1 e2; exact ⟨Nat.le_refl _, Nat.le_refl _⟩
    · split at h
      · split at h
        · cases h
        · injection h with h; injection h with e1 e2; subst e1 e2
          exact ⟨by omega, by rw [List.length_take]; omega⟩
      · injection h with h; injection h with e1 e2; subst e1 e2; simp
theorem fcu_er {way : Int} {len : Nat} {l : List UInt8} {k : Nat} (h : fcu way len l = .error k) : k = 19 ∨ k = 2 ∨ k = 8 ∨ k = 20 ∨ k = 7 := by
  unfold fcu at h
  split at h
  · cases hu : unk l with
    | ok p => rw [hu] at h; cases h
    | error e =>
      rw [hu] at h
      injection h with h
      rcases unk_er hu with rfl | rfl | rfl | rfl <;> simp at h <;> omega
  · split at h
    · split at h
      · injection h with h; omega
      · cases h
    · split at h
      · split at h
        · injection h with h; omega
        · cases h
      · cases h
theorem fcu_same {way : Int} {len : Nat} {l t : List UInt8} {k : Nat} (h : fcu way len l = .error k) (hk : k ≠ 2) : fcu way len (l ++ t) = .error k := by
  by_cases hw : way = 1
  · subst hw
    unfold fcu at *
    simp only [show ¬ ((1 : Int) = 3) by decide, if_false, if_true] at h ⊢
    split at h
    · rename_i hl
      rw [if_pos (by rw [List.length_append]; omega)]
      exact h
    · cases h
  · rw [fcu_more hw (by rw [h]; intro e; injection e with e; exact hk e)]
    exact h
/-- a message: its head, what is read of it, and the body that this tells -/
def msg {X Y : Type} (pl : Nat) (g : List UInt8 → List UInt8 → Er (X × Int × Nat)) (mk : X → Int → List UInt8 → Y) (l : List UInt8) : Er (Y × Nat) := match cHd pl l with
  | .error k => .error k
  | .ok (st, fl, k) => match g st fl with
    | .error e => .error e
    | .ok (x, way, len) => match fcu way len (l.drop k) with
      | .error e => .error e
      | .ok (b, n) => .ok (mk x way b, k + n)
theorem msg_er {X Y : Type} {pl : Nat} {g : List UInt8 → List UInt8 → Er (X × Int × Nat)} {mk : X → Int → List UInt8 → Y} {l t : List UInt8} {e : Nat} (h : msg pl g mk l = .error e) (he : e ≠ 2) : msg pl g mk (l ++ t) = .error e := by
  unfold msg at *
  cases hc : cHd pl l with
  | error k =>
    rw [hc] at h
    injection h with h
    subst h
    rw [cHd_more (by rw [hc]; intro e2; injection e2 with e2; exact he e2), hc]
  | ok q =>
    obtain ⟨st, fl, k⟩ := q
    rw [cHd_more (by rw [hc]; intro e2; cases e2), hc]
    rw [hc] at h
    dsimp only at h ⊢
    cases hg : g st fl with
    | error k => rw [hg] at h; exact h
    | ok x =>
      obtain ⟨x, way, len⟩ := x
      rw [hg] at h
      dsimp only at h ⊢
      rw [List.drop_append_of_le_length (cHd_ok hc).2.1]
      cases hf : fcu way len (l.drop k) with
      | ok p => rw [hf] at h; cases h
      | error k2 =>
        rw [hf] at h
        injection h with h
        subst h
        rw [fcu_same hf he]
theorem msg_ok {X Y : Type} {pl : Nat} {g : List UInt8 → List UInt8 → Er (X × Int × Nat)} {mk : X → Int → List UInt8 → Y} {l : List UInt8} {y : Y} {n : Nat} (h : msg pl g mk l = .ok (y, n)) :
    ∃ st fl k x way len b, cHd pl l = .ok (st, fl, k) ∧ g st fl = .ok (x, way, len) ∧ fcu way len (l.drop k) = .ok (b, n - k) ∧ y = mk x way b ∧ k ≤ n ∧ n ≤ l.length ∧ b.length ≤ l.length ∧ 0 < n ∧
      ∀ t, (way ≠ 1 → msg pl g mk (l ++ t) = .ok (y, n)) ∧ (∀ y' n', msg pl g mk (l ++ t) = .ok (y', n') → ∃ b', y' = mk x way b') := by
  unfold msg at h
  cases hc : cHd pl l with
  | error k => rw [hc] at h; cases h
  | ok q =>
    obtain ⟨st, fl, k⟩ := q
    have hck := cHd_ok hc
    rw [hc] at h
    dsimp only at h
    cases hg : g st fl with
    | error k => rw [hg] at h; cases h
    | ok x =>
      obtain ⟨x, way, len⟩ := x
      rw [hg] at h
      dsimp only at h
      cases hf : fcu way len (l.drop k) with
      | error k2 => rw [hf] at h; cases h
      | ok p =>
        obtain ⟨b, m⟩ := p
        have hl := fcu_len hf
        rw [List.length_drop] at hl
        rw [hf] at h
        injection h with h
        injection h with e1 e2
        subst e1 e2
        refine ⟨st, fl, k, x, way, len, b, rfl, hg, by rw [Nat.add_sub_cancel_left]; exact hf, rfl, by omega, by omega, by omega, by omega, fun t => ⟨fun hw => ?_, fun y' n' h' => ?_⟩⟩
        · unfold msg
          rw [cHd_more (by rw [hc]; intro e2; cases e2), hc]
          dsimp only
          rw [hg]
          dsimp only
          rw [List.drop_append_of_le_length hck.2.1, fcu_more hw (by rw [hf]; intro e2; cases e2), hf]
        · unfold msg at h'
          rw [cHd_more (by rw [hc]; intro e2; cases e2), hc] at h'
          dsimp only at h'
          rw [hg] at h'
          dsimp only at h'
          split at h'
          · cases h'
          · rename_i b' m' _
            injection h' with h'
            injection h' with e1 e2
            exact ⟨b', e1.symm⟩
theorem msg_short {X Y : Type} {pl : Nat} {g : List UInt8 → List UInt8 → Er (X × Int × Nat)} {mk : X → Int → List UInt8 → Y} {l t : List UInt8} {y : Y} {n : Nat} (h : msg pl g mk l = .error 2) (h2 : msg pl g mk (l ++ t) = .ok (y, n)) : l.length < n := by
  unfold msg at *
  cases hc : cHd pl l with
  | error k =>
    rw [hc] at h
    injection h with h
    subst h
    cases hc2 : cHd pl (l ++ t) with
    | error k => rw [hc2] at h2; cases h2
    | ok q =>
      obtain ⟨st, fl, k⟩ := q
      have h3 := cHd_short hc hc2
      rw [hc2] at h2
      dsimp only at h2
      split at h2
      · cases h2
      · split at h2
        · cases h2
        · injection h2 with h2
          injection h2 with e1 e2
          omega
  | ok q =>
    obtain ⟨st, fl, k⟩ := q
    rw [cHd_more (by rw [hc]; intro e2; cases e2), hc] at h2
    rw [hc] at h
    have hck := cHd_ok hc
    dsimp only at h h2
    cases hg : g st fl with
    | error k => rw [hg] at h2; cases h2
    | ok x =>
      obtain ⟨x, way, len⟩ := x
      rw [hg] at h h2
      dsimp only at h h2
      rw [List.drop_append_of_le_length hck.2.1] at h2
      cases hf : fcu way len (l.drop k) with
      | ok p => rw [hf] at h; cases h
      | error e =>
        rw [hf] at h
        injection h with h
        subst h
        cases hf2 : fcu way len (l.drop k ++ t) with
        | error e => rw [hf2] at h2; cases h2
        | ok p =>
          obtain ⟨b, m⟩ := p
          have := fcu_short hf hf2
          rw [hf2] at h2
          injection h2 with h2
          injection h2 with e1 e2
          rw [List.length_drop] at this
          omega
end Go.Proofs.YtabpgpbcnadgcaaGreatDoor
