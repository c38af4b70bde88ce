import Derived.Test.YtehnnlhoajdcaaaGreatDoorYa
namespace Go.Proofs.YtehnnlhoajdcaaaGreatDoor
open Go.RowKit TextNum
abbrev Er (α : Type) := Except Nat α
def fnl (l : List UInt8) : Option Nat := l.findIdx? (· == 10)
theorem ixb_fnl : ∀ l : List UInt8, Go.Lib.indexByte l 10 = match fnl l with | none => -1 | some i => (i : Int)
 | [] => rfl
 | b :: l => by
  have ih := ixb_fnl l
  unfold Go.Lib.indexByte
  unfold fnl at *
  rw [List.findIdx?_cons]
  by_cases hb : b = 10
  · subst hb
    simp
  have hb2 : (b == 10) = false := by simpa using hb
  rw [hb2, ih]
  cases h : List.findIdx? (fun x => x == 10) l with
  | none => simp
  | some i =>
   have : ¬ ((i : Int) = -1) := by omega
   simp [this]
theorem fnl_lt {l : List UInt8} {i : Nat} (h : fnl l = some i) : i < l.length := by
 unfold fnl at h
 exact (List.findIdx?_eq_some_iff_getElem.1 h).1
theorem fnl_app {l t : List UInt8} {i : Nat} (h : fnl l = some i) : fnl (l ++ t) = some i := by
 unfold fnl at *
 rw [List.findIdx?_append, h]
 rfl
def tcr (l : List UInt8) : List UInt8 := if l.getLast? = some 13 then l.dropLast else l
theorem tcr_len (l : List UInt8) : (tcr l).length ≤ l.length := by
 unfold tcr
 split
 · rw [List.length_dropLast]; omega
 exact Nat.le_refl _
theorem tcr_take (l : List UInt8) : tcr l = l.take (tcr l).length := by
 unfold tcr
 split
 · rw [List.length_dropLast, List.dropLast_eq_take]
 rw [List.take_length]
def cutL (most : Nat) (l : List UInt8) : Er (List UInt8 × Nat) :=
 match fnl (l.take (most + 2)) with
 | none => if l.length < most + 2 then .error 2 else .error 1
 | some i => if most < (tcr (l.take i)).length then .error 1 else .ok (tcr (l.take i), i + 1)
theorem cutL_more {m : Nat} {l t : List UInt8} (h : cutL m l ≠ .error 2) : cutL m (l ++ t) = cutL m l := by
 unfold cutL at *
 cases hf : fnl (l.take (m + 2)) with
 | none =>
  rw [hf] at h
  by_cases hl : l.length < m + 2
  · rw [if_pos hl] at h; exact absurd rfl h
  have e : (l ++ t).take (m + 2) = l.take (m + 2) := by rw [List.take_append, show m + 2 - l.length = 0 by omega]; simp
  have hl2 : ¬ (l ++ t).length < m + 2 := by rw [List.length_append]; omega
  rw [e, hf]
  simp only [if_neg hl, if_neg hl2]
 | some i =>
  have h1 := fnl_lt hf
  rw [List.length_take] at h1
  rw [List.take_append, fnl_app hf]
  have e : (l ++ t).take i = l.take i := by rw [List.take_append, show i - l.length = 0 by omega]; simp
  dsimp only
  rw [e]
theorem cutL_ok {m : Nat} {l ln : List UInt8} {k : Nat} (h : cutL m l = .ok (ln, k)) : 0 < k ∧ k ≤ l.length ∧ ln.length < k ∧ ln = l.take ln.length ∧ ln.length ≤ m := by
 unfold cutL at h
 cases hf : fnl (l.take (m + 2)) with
 | none => rw [hf] at h; dsimp only at h; split at h <;> cases h
 | some i =>
  rw [hf] at h
  dsimp only at h
  have h1 := fnl_lt hf
  rw [List.length_take] at h1
  split at h
  · cases h
  injection h with h
  injection h with e1 e2
  subst e1 e2
  have h2 := tcr_len (l.take i)
  rw [List.length_take] at h2
  refine ⟨by omega, by omega, by omega, ?_, by omega⟩
  have h3 := tcr_take (l.take i)
  rw [List.take_take, Nat.min_eq_left (by omega)] at h3
  exact h3
theorem cutL_er {m : Nat} {l : List UInt8} {k : Nat} (h : cutL m l = .error k) : k = 1 ∨ k = 2 := by
 unfold cutL at h
 split at h
 · split at h
   · injection h with h; exact .inr h.symm
   injection h with h; exact .inl h.symm
 split at h
 · injection h with h; exact .inl h.symm
 cases h
def mfl : Nat → List UInt8 → Option (Nat × Nat)
 | 0, _ => none
 | f + 1, l => match cutL 16384 l with
   | .error _ => none
   | .ok (ln, k) => if ln = [] then some (0, k) else (mfl f (l.drop k)).map fun p => (k + p.1, k + p.2)
theorem mfl_fuel : ∀ (f g : Nat) (l : List UInt8), l.length < f → l.length < g → mfl f l = mfl g l
 | 0, _, _, h, _ => absurd h (by omega)
 | _, 0, _, _, h => absurd h (by omega)
 | f + 1, g + 1, l, hf, hg => by
  unfold mfl
  cases hc : cutL 16384 l with
  | error k => rfl
  | ok p =>
   obtain ⟨ln, k⟩ := p
   have h1 := cutL_ok hc
   dsimp only
   rw [mfl_fuel f g (l.drop k) (by rw [List.length_drop]; omega) (by rw [List.length_drop]; omega)]
theorem mfl_ok : ∀ (f : Nat) (l : List UInt8) (p : Nat × Nat), mfl f l = some p → p.1 ≤ p.2 ∧ p.2 ≤ l.length
 | 0, _, _, h => by cases h
 | f + 1, l, p, h => by
  unfold mfl at h
  cases hc : cutL 16384 l with
  | error k => rw [hc] at h; cases h
  | ok q =>
   obtain ⟨ln, k⟩ := q
   rw [hc] at h
   have h1 := cutL_ok hc
   dsimp only at h
   split at h
   · injection h with h; subst h; exact ⟨by omega, by omega⟩
   obtain ⟨p', h2, rfl⟩ := Option.map_eq_some_iff.1 h
   have h3 := mfl_ok f _ _ h2
   rw [List.length_drop] at h3
   exact ⟨by dsimp only; omega, by dsimp only; omega⟩
theorem mfl_more (t : List UInt8) : ∀ (f : Nat) (l : List UInt8) (p : Nat × Nat), mfl f l = some p → mfl f (l ++ t) = some p
 | 0, _, _, h => by cases h
 | f + 1, l, p, h => by
  unfold mfl at h ⊢
  cases hc : cutL 16384 l with
  | error k => rw [hc] at h; cases h
  | ok q =>
   obtain ⟨ln, k⟩ := q
   have h1 := cutL_ok hc
   rw [cutL_more (by rw [hc]; intro e; cases e), hc]
   rw [hc] at h
   dsimp only at h ⊢
   split at h
   · rw [if_pos (by assumption)]; exact h
   rw [if_neg (by assumption)]
   obtain ⟨p', h2, rfl⟩ := Option.map_eq_some_iff.1 h
   rw [List.drop_append_of_le_length h1.2.1, mfl_more t f _ _ h2]
   rfl
def mF (l : List UInt8) : Er (Nat × Nat) := match mfl (l.length + 1) (l.take 16384) with
 | some p => .ok p
 | none => if 16384 < l.length then .error 1 else .error 2
theorem mF_more {l t : List UInt8} (h : mF l ≠ .error 2) : mF (l ++ t) = mF l := by
 unfold mF at *
 cases hm : mfl (l.length + 1) (l.take 16384) with
 | some p =>
  have h1 := mfl_more ((l ++ t).drop (l.take 16384).length |>.take (16384 - (l.take 16384).length)) _ _ _ hm
  have e : (l ++ t).take 16384 = l.take 16384 ++ (((l ++ t).drop (l.take 16384).length).take (16384 - (l.take 16384).length)) := by
   rw [List.take_append, List.length_take]
   rcases Nat.le_total l.length 16384 with h | h
   · rw [Nat.min_eq_right h, List.drop_left]
   rw [Nat.min_eq_left h, show 16384 - l.length = 0 by omega, Nat.sub_self]
   simp
  rw [← e] at h1
  have hl1 : ((l ++ t).take 16384).length < (l ++ t).length + 1 := by rw [List.length_take]; omega
  have h2 := mfl_fuel ((l ++ t).length + 1) (16384 + (l ++ t).length + 1) ((l ++ t).take 16384) hl1 (by omega)
  have h3 : mfl (16384 + (l ++ t).length + 1) ((l ++ t).take 16384) = some p := by
   rw [e]
   have hm2 : mfl (16384 + (l ++ t).length + 1) (l.take 16384) = some p := by
    rw [← hm]
    refine mfl_fuel _ _ _ ?_ ?_
    · rw [List.length_take, List.length_append]; omega
    rw [List.length_take]; omega
   exact mfl_more _ _ _ _ hm2
  rw [h2, h3]
 | none =>
  rw [hm] at h
  by_cases hl : 16384 < l.length
  · have e : (l ++ t).take 16384 = l.take 16384 := by rw [List.take_append, show 16384 - l.length = 0 by omega]; simp
    have h2 := mfl_fuel ((l ++ t).length + 1) (l.length + 1) (l.take 16384) (by rw [List.length_take, List.length_append]; omega) (by rw [List.length_take]; omega)
    rw [e, h2, hm]
    have hl2 : 16384 < (l ++ t).length := by rw [List.length_append]; omega
    simp only [if_pos hl, if_pos hl2]
  rw [if_neg hl] at h; exact absurd rfl h
theorem mF_ok {l : List UInt8} {p : Nat × Nat} (h : mF l = .ok p) : p.1 ≤ p.2 ∧ p.2 ≤ l.length := by
 unfold mF at h
 cases hm : mfl (l.length + 1) (l.take 16384) with
 | none => rw [hm] at h; dsimp only at h; split at h <;> cases h
 | some q =>
  rw [hm] at h
  injection h with h
  subst h
  have := mfl_ok _ _ _ hm
  rw [List.length_take] at this
  omega
def cHd (place : Nat) (l : List UInt8) : Er (List UInt8 × List UInt8 × Nat) := match cutL 8000 l with
 | .error k => .error (if k = 1 then 12 + place else k)
 | .ok (st, k) => match mF (l.drop k) with
   | .error e => .error e
   | .ok (f, a) => .ok (st, (l.drop k).take f, k + a)
theorem cHd_more {p : Nat} {l t : List UInt8} (h : cHd p l ≠ .error 2) : cHd p (l ++ t) = cHd p l := by
 unfold cHd at *
 cases hc : cutL 8000 l with
 | error k =>
  rw [hc] at h
  rw [cutL_more (by rw [hc]; intro e; injection e with e; subst e; exact h rfl), hc]
 | ok q =>
  obtain ⟨st, k⟩ := q
  rw [hc] at h
  have h1 := cutL_ok hc
  rw [cutL_more (by rw [hc]; intro e; cases e), hc]
  dsimp only at h ⊢
  rw [List.drop_append_of_le_length h1.2.1]
  cases hm : mF (l.drop k) with
  | error e =>
   rw [hm] at h
   rw [mF_more (by rw [hm]; intro e2; injection e2 with e2; subst e2; exact h rfl), hm]
  | ok p =>
   rw [mF_more (by rw [hm]; intro e; cases e), hm]
   have h2 := mF_ok hm
   dsimp only
   rw [List.take_append_of_le_length (by omega)]
end Go.Proofs.YtehnnlhoajdcaaaGreatDoor
