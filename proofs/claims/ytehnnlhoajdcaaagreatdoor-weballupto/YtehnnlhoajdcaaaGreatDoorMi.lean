import Derived.Test.YtehnnlhoajdcaaaGreatDoorMe
import Derived.Test.YtehnnlhoajdcaaaGreatDoorMc
namespace Go.Proofs.YtehnnlhoajdcaaaGreatDoor
open Go.RowKit TextNum
theorem cHd_ok {pl : Nat} {l st fl : List UInt8} {k : Nat} (h : cHd pl l = .ok (st, fl, k)) : 0 < k ∧ k ≤ l.length ∧ st.length ≤ 8000 ∧ fl.length ≤ 16384 ∧ fl.length ≤ l.length := by
 unfold cHd at h
 cases hc : cutL 8000 l with
 | error e => rw [hc] at h; cases h
 | ok q =>
  obtain ⟨s, q⟩ := q
  have h1 := cutL_ok hc
  rw [hc] at h
  dsimp only at h
  cases hm : mF (l.drop q) with
  | error e => rw [hm] at h; cases h
  | ok p =>
   obtain ⟨f, a⟩ := p
   rw [hm] at h
   have h2 := mF_ok hm
   have h4 : a ≤ 16384 := by
    unfold mF at hm
    split at hm
    · rename_i p hp
      injection hm with hm
      subst hm
      have := mfl_ok _ _ _ hp
      rw [List.length_take] at this
      dsimp only at this
      omega
    split at hm <;> cases hm
   injection h with h
   injection h with e1 e2
   injection e2 with e2 e3
   rw [List.length_drop] at h2
   dsimp only at h2
   subst e1 e2 e3
   refine ⟨by omega, by omega, h1.2.2.2.2, ?_, ?_⟩
   · rw [List.length_take]; omega
   rw [List.length_take, List.length_drop]; omega
theorem cHd_er {pl : Nat} {l : List UInt8} {k : Nat} (h : cHd pl l = .error k) : k = 12 + pl ∨ k = 1 ∨ k = 2 := by
 unfold cHd at h
 cases hc : cutL 8000 l with
 | error e =>
  rw [hc] at h
  dsimp only at h
  injection h with h
  rcases cutL_er hc with rfl | rfl
  · simp at h; omega
  simp at h; omega
 | ok q =>
  obtain ⟨s, q⟩ := q
  rw [hc] at h
  dsimp only at h
  cases hm : mF (l.drop q) with
  | ok p => rw [hm] at h; cases h
  | error e =>
   rw [hm] at h
   injection h with h
   subst h
   unfold mF at hm
   split at hm
   · cases hm
   split at hm
   · injection hm with hm; omega
   injection hm with hm; omega
theorem unc_more (t : List UInt8) : ∀ (f : Nat) (b l : List UInt8), l.length < f → unc f b l ≠ .error 2 → unc f b (l ++ t) = match unc f b l with | .ok (x, r) => .ok (x, r ++ t) | .error e => .error e
 | 0, _, _, h, _ => absurd h (by omega)
 | f + 1, b, l, hl, h => by
  rw [unc] at h
  rw [unc, unc]
  cases hc : cutL 256 l with
  | error k =>
   rw [hc] at h
   rcases cutL_er hc with rfl | rfl
   · rw [cutL_more (by rw [hc]; intro e; injection e with e; omega), hc]
   exact absurd rfl h
  | ok p =>
   obtain ⟨ln, k⟩ := p
   have h1 := cutL_ok hc
   rw [hc] at h
   rw [cutL_more (by rw [hc]; intro e; cases e), hc]
   dsimp only at h ⊢
   cases hz : cSz ln with
   | error e => rfl
   | ok z =>
    rw [hz] at h
    dsimp only at h ⊢
    split
    · rfl
    rename_i hzb
    rw [if_neg hzb] at h
    rw [List.drop_append_of_le_length h1.2.1]
    cases hd : cCk z (l.drop k) with
    | error e =>
     rw [hd] at h
     rw [cCk_more (by rw [hd]; intro e2; injection e2 with e2; subst e2; exact h rfl), hd]
    | ok q =>
     obtain ⟨d, r⟩ := q
     have h2 := cCk_ok hd
     rw [List.length_drop] at h2
     rw [hd] at h
     rw [cCk_more (by rw [hd]; intro e2; cases e2), hd]
     dsimp only at h ⊢
     split
     · rfl
     rename_i hz0
     rw [if_neg hz0] at h
     exact unc_more t f (b ++ d) r (by omega) h
theorem unc_rest : ∀ (f : Nat) (b l x r : List UInt8), unc f b l = .ok (x, r) → r.length < l.length ∧ x.length ≤ 1048576
 | 0, _, _, _, _, h => by cases h
 | f + 1, b, l, x, r, h => by
  rw [unc] at h
  cases hc : cutL 256 l with
  | error k => rw [hc] at h; cases h
  | ok p =>
   obtain ⟨ln, k⟩ := p
   have h1 := cutL_ok hc
   rw [hc] at h
   dsimp only at h
   cases hz : cSz ln with
   | error e => rw [hz] at h; cases h
   | ok z =>
    rw [hz] at h
    dsimp only at h
    split at h
    · cases h
    rename_i hzb
    cases hd : cCk z (l.drop k) with
    | error e => rw [hd] at h; cases h
    | ok q =>
     obtain ⟨d, r2⟩ := q
     have h3 := cCk_ok hd
     rw [List.length_drop] at h3
     rw [hd] at h
     dsimp only at h
     split at h
     · injection h with h
       injection h with e1 e2
       subst e1 e2
       refine ⟨by omega, ?_⟩
       rw [List.length_append]; omega
     have := unc_rest f _ _ _ _ h
     exact ⟨by omega, this.2⟩
theorem unk_more {l t : List UInt8} (h : unk l ≠ .error 2) : unk (l ++ t) = unk l := by
 unfold unk at *
 have hf := unc_fuel (l.length + 1) ((l ++ t).length + 1) [] l (by omega) (by rw [List.length_append]; omega)
 rw [hf] at h ⊢
 have hm := unc_more t ((l ++ t).length + 1) [] l (by rw [List.length_append]; omega)
 cases hu : unc ((l ++ t).length + 1) [] l with
 | error e =>
  rw [hu] at h hm
  rw [hm (fun e2 => by injection e2 with e2; subst e2; exact h rfl)]
 | ok p =>
  obtain ⟨x, r⟩ := p
  rw [hu] at hm
  rw [hm (fun e2 => by cases e2)]
  dsimp only
  have := (unc_rest _ _ _ _ _ hu).1
  rw [List.length_append, List.length_append, show l.length + t.length - (r.length + t.length) = l.length - r.length by omega]
theorem unk_len {l x : List UInt8} {n : Nat} (h : unk l = .ok (x, n)) : n ≤ l.length ∧ x.length ≤ 1048576 := by
 unfold unk at h
 split at h
 · cases h
 rename_i b r hu
 injection h with h
 injection h with e1 e2
 have := unc_rest _ _ _ _ _ hu
 subst e1
 exact ⟨by omega, this.2⟩
theorem fcu_more {way : Int} {len : Nat} {l t : List UInt8} (hw : way ≠ 1) (h : fcu way len l ≠ .error 2) : fcu way len (l ++ t) = fcu way len l := by
 unfold fcu at *
 by_cases h3 : way = 3
 · rw [if_pos h3] at h ⊢
   rw [if_pos h3]
   cases hu : unk l with
   | ok p => rw [unk_more (by rw [hu]; intro e; cases e), hu]
   | error k =>
    rw [hu] at h
    rw [unk_more (by rw [hu]; intro e; injection e with e; subst e; exact h rfl), hu]
 rw [if_neg h3, if_neg hw] at h ⊢
 rw [if_neg h3, if_neg hw]
 by_cases h2 : way = 2
 · rw [if_pos h2] at h ⊢
   rw [if_pos h2]
   by_cases hl : l.length < len
   · rw [if_pos hl] at h; exact absurd rfl h
   rw [if_neg hl, if_neg (by rw [List.length_append]; omega), List.take_append_of_le_length (by omega)]
 rw [if_neg h2, if_neg h2]
theorem fcu_len {way : Int} {len : Nat} {l x : List UInt8} {n : Nat} (h : fcu way len l = .ok (x, n)) : n ≤ l.length ∧ x.length ≤ l.length := by
 unfold fcu at h
 split at h
 · cases hu : unk l with
   | error k => rw [hu] at h; cases h
   | ok p =>
    rw [hu] at h
    injection h with h
    subst h
    have := unk_len hu
    refine ⟨this.1, ?_⟩
    unfold unk at hu
    split at hu
    · cases hu
    rename_i b r hun
    injection hu with hu
    injection hu with e1 e2
    subst e1
    have hgen : ∀ (f : Nat) (b l x r : List UInt8), unc f b l = .ok (x, r) → x.length + r.length ≤ b.length + l.length := by
     intro f
     induction f with
     | zero => intro b l x r h; cases h
     | succ f ih =>
      intro b l x r h
      rw [unc] at h
      cases hc : cutL 256 l with
      | error k => rw [hc] at h; cases h
      | ok p =>
       obtain ⟨ln, k⟩ := p
       have h1 := cutL_ok hc
       rw [hc] at h
       dsimp only at h
       cases hz : cSz ln with
       | error e => rw [hz] at h; cases h
       | ok z =>
        rw [hz] at h
        dsimp only at h
        split at h
        · cases h
        cases hd : cCk z (l.drop k) with
        | error e => rw [hd] at h; cases h
        | ok q =>
         obtain ⟨d, r2⟩ := q
         have h3 := cCk_ok hd
         rw [List.length_drop] at h3
         rw [hd] at h
         dsimp only at h
         split at h
         · injection h with h
           injection h with e1 e2
           subst e1 e2
           rw [List.length_append]
           omega
         have := ih _ _ _ _ h
         rw [List.length_append] at this
         omega
    have := hgen _ _ _ _ _ hun
    simp only [List.length_nil] at this
    omega
 split at h
 · split at h
   · cases h
   injection h with h; injection h with e1 e2; subst e1 e2; exact ⟨Nat.le_refl _, Nat.le_refl _⟩
 split at h
 · split at h
   · cases h
   injection h with h; injection h with e1 e2; subst e1 e2
   exact ⟨by omega, by rw [List.length_take]; omega⟩
 injection h with h; injection h with e1 e2; subst e1 e2; simp
theorem fcu_er {way : Int} {len : Nat} {l : List UInt8} {k : Nat} (h : fcu way len l = .error k) : k = 19 ∨ k = 2 ∨ k = 8 ∨ k = 20 ∨ k = 7 := by
 unfold fcu at h
 split at h
 · cases hu : unk l with
   | ok p => rw [hu] at h; cases h
   | error e =>
    rw [hu] at h
    injection h with h
    rcases unk_er hu with rfl | rfl | rfl | rfl <;> simp at h <;> omega
 split at h
 · split at h
   · injection h with h; omega
   cases h
 split at h
 · split at h
   · injection h with h; omega
   cases h
 cases h
def msg {X Y : Type} (pl : Nat) (g : List UInt8 → List UInt8 → Er (X × Int × Nat)) (mk : X → Int → List UInt8 → Y) (l : List UInt8) : Er (Y × Nat) := match cHd pl l with
 | .error k => .error k
 | .ok (st, fl, k) => match g st fl with
   | .error e => .error e
   | .ok (x, way, len) => match fcu way len (l.drop k) with
     | .error e => .error e
     | .ok (b, n) => .ok (mk x way b, k + n)
theorem msg_ok {X Y : Type} {pl : Nat} {g : List UInt8 → List UInt8 → Er (X × Int × Nat)} {mk : X → Int → List UInt8 → Y} {l : List UInt8} {y : Y} {n : Nat} (h : msg pl g mk l = .ok (y, n)) :
  ∃ st fl k x way len b, cHd pl l = .ok (st, fl, k) ∧ g st fl = .ok (x, way, len) ∧ fcu way len (l.drop k) = .ok (b, n - k) ∧ y = mk x way b ∧ k ≤ n ∧ n ≤ l.length ∧ b.length ≤ l.length ∧ 0 < n ∧
   ∀ t, (way ≠ 1 → msg pl g mk (l ++ t) = .ok (y, n)) ∧ (∀ y' n', msg pl g mk (l ++ t) = .ok (y', n') → ∃ b', y' = mk x way b') := by
 unfold msg at h
 cases hc : cHd pl l with
 | error k => rw [hc] at h; cases h
 | ok q =>
  obtain ⟨st, fl, k⟩ := q
  have hck := cHd_ok hc
  rw [hc] at h
  dsimp only at h
  cases hg : g st fl with
  | error k => rw [hg] at h; cases h
  | ok x =>
   obtain ⟨x, way, len⟩ := x
   rw [hg] at h
   dsimp only at h
   cases hf : fcu way len (l.drop k) with
   | error k2 => rw [hf] at h; cases h
   | ok p =>
    obtain ⟨b, m⟩ := p
    have hl := fcu_len hf
    rw [List.length_drop] at hl
    rw [hf] at h
    injection h with h
    injection h with e1 e2
    subst e1 e2
    refine ⟨st, fl, k, x, way, len, b, rfl, hg, by rw [Nat.add_sub_cancel_left]; exact hf, rfl, by omega, by omega, by omega, by omega, fun t => ⟨fun hw => ?_, fun y' n' h' => ?_⟩⟩
    · unfold msg
      rw [cHd_more (by rw [hc]; intro e2; cases e2), hc]
      dsimp only
      rw [hg]
      dsimp only
      rw [List.drop_append_of_le_length hck.2.1, fcu_more hw (by rw [hf]; intro e2; cases e2), hf]
    unfold msg at h'
    rw [cHd_more (by rw [hc]; intro e2; cases e2), hc] at h'
    dsimp only at h'
    rw [hg] at h'
    dsimp only at h'
    split at h'
    · cases h'
    rename_i b' m' _
    injection h' with h'
    injection h' with e1 e2
    exact ⟨b', e1.symm⟩
end Go.Proofs.YtehnnlhoajdcaaaGreatDoor
