/-! plain lemmas on the texts of bytes: hex, base64, quotes; no model in it -/
namespace TextNum

/-- the sixteen digits, the sixty-four letters -/
def DT : List UInt8 := [48, 49, 50, 51, 52, 53, 54, 55, 56, 57, 97, 98, 99, 100, 101, 102]
def LT : List UInt8 := [65, 66, 67, 68, 69, 70, 71, 72, 73, 74, 75, 76, 77, 78, 79, 80, 81, 82, 83, 84, 85, 86, 87, 88, 89, 90, 97, 98, 99, 100, 101, 102, 103, 104, 105, 106, 107, 108, 109, 110, 111, 112, 113, 114, 115, 116, 117, 118, 119, 120, 121, 122, 48, 49, 50, 51, 52, 53, 54, 55, 56, 57, 43, 47]
def dg (i : Nat) : UInt8 := DT.getD i 0
def lt (i : Nat) : UInt8 := LT.getD i 0
/-- the place of a byte in a table -/
def pl (t : List UInt8) (c : UInt8) : Option Nat := t.idxOf? c

theorem pl_some {t : List UInt8} {c : UInt8} {i : Nat} (h : pl t c = some i) : t[i]? = some c := by
  unfold pl at h
  rw [List.idxOf?_eq_some_iff] at h
  obtain ⟨hi, h1, _⟩ := h
  rw [List.getElem?_eq_getElem hi]
  simpa using h1
theorem pl_lt {t : List UInt8} {c : UInt8} {i : Nat} (h : pl t c = some i) : i < t.length := by
  have := pl_some h
  exact (List.getElem?_eq_some_iff.1 this).1
theorem pl_dg {c : UInt8} {i : Nat} (h : pl DT c = some i) : dg i = c ∧ i < 16 := by
  have h1 := pl_some h
  exact ⟨by simp [dg, List.getD, h1], pl_lt h⟩
theorem pl_lt' {c : UInt8} {i : Nat} (h : pl LT c = some i) : lt i = c ∧ i < 64 := by
  have h1 := pl_some h
  exact ⟨by simp [lt, List.getD, h1], pl_lt h⟩
theorem dg_pl : ∀ i, i < 16 → pl DT (dg i) = some i := by decide
theorem lt_pl : ∀ i, i < 64 → pl LT (lt i) = some i := by decide
theorem lt_ne : ∀ i, i < 64 → lt i ≠ 61 := by decide
theorem pl_61 : pl LT 61 = none := by decide

/-! hex -/
def hexE : List UInt8 → List UInt8
  | [] => []
  | b :: r => dg (b.toNat / 16) :: dg (b.toNat % 16) :: hexE r
def hexB (a b : UInt8) : Option UInt8 := match pl DT a, pl DT b with
  | some x, some y => some (UInt8.ofNat (16 * x + y))
  | _, _ => none
def hexD : List UInt8 → Option (List UInt8)
  | [] => some []
  | [_] => none
  | a :: b :: r => match hexB a b with
    | some x => (hexD r).map (x :: ·)
    | none => none
theorem hexB_some {a b x : UInt8} (h : hexB a b = some x) : dg (x.toNat / 16) = a ∧ dg (x.toNat % 16) = b := by
  unfold hexB at h
  split at h
  · rename_i i j hi hj
    obtain ⟨h1, h2⟩ := pl_dg hi
    obtain ⟨h3, h4⟩ := pl_dg hj
    injection h with h
    subst h
    have e : (UInt8.ofNat (16 * i + j)).toNat = 16 * i + j := by simp [UInt8.toNat_ofNat']; omega
    rw [e, show (16 * i + j) / 16 = i by omega, show (16 * i + j) % 16 = j by omega]
    exact ⟨h1, h3⟩
  · cases h
theorem hexB_back (x : UInt8) : hexB (dg (x.toNat / 16)) (dg (x.toNat % 16)) = some x := by
  have hx := x.toNat_lt
  unfold hexB
  rw [dg_pl _ (by omega), dg_pl _ (by omega)]
  simp only
  rw [show 16 * (x.toNat / 16) + x.toNat % 16 = x.toNat by omega, UInt8.ofNat_toNat]
theorem hexE_length : ∀ l, (hexE l).length = 2 * l.length
  | [] => rfl
  | b :: r => by simp [hexE, hexE_length r]; omega
theorem hexE_append : ∀ a b, hexE (a ++ b) = hexE a ++ hexE b
  | [], b => rfl
  | x :: a, b => by simp [hexE, hexE_append a b]
theorem hexE_snoc (a : List UInt8) (x : UInt8) : hexE (a ++ [x]) = hexE a ++ [dg (x.toNat / 16), dg (x.toNat % 16)] := by rw [hexE_append]; rfl
theorem hex_once : ∀ s x, hexD s = some x → hexE x = s
  | [], x, h => by simp [hexD] at h; subst h; rfl
  | [_], x, h => by simp [hexD] at h
  | a :: b :: r, x, h => by
    simp only [hexD] at h
    split at h
    · rename_i y hy
      obtain ⟨l, hl, rfl⟩ := Option.map_eq_some_iff.1 h
      obtain ⟨h1, h2⟩ := hexB_some hy
      simp [hexE, h1, h2, hex_once r l hl]
    · cases h
theorem hex_back : ∀ x, hexD (hexE x) = some x
  | [] => rfl
  | b :: r => by simp [hexE, hexD, hexB_back, hex_back r]
theorem hexD_length : ∀ s x, hexD s = some x → s.length = 2 * x.length := fun s x h => by rw [← hex_once s x h, hexE_length]

/-! quotes -/
def its (x : UInt8) : Bool := decide (32 ≤ x.toNat) && decide (x.toNat ≤ 126) && decide (x.toNat ≠ 34) && decide (x.toNat ≠ 92)
def qb (x : UInt8) : List UInt8 := if its x then [x] else [92, 120, dg (x.toNat / 16), dg (x.toNat % 16)]
def qs : List UInt8 → List UInt8
  | [] => []
  | b :: r => qb b ++ qs r
def quo (l : List UInt8) : List UInt8 := 34 :: (qs l ++ [34])
/-- the byte with whose form a text begins, and the form's length -/
def esc : List UInt8 → Option (UInt8 × Nat)
  | 92 :: 120 :: a :: b :: _ => match hexB a b with
      | some x => if its x then none else some (x, 4)
      | none => none
  | _ => none
def fb (s : List UInt8) : Option (UInt8 × Nat) := match s.head? with
  | none => none
  | some c => if its c then some (c, 1) else esc s
theorem fb_cons {c : UInt8} {r : List UInt8} : fb (c :: r) = if its c then some (c, 1) else esc (c :: r) := rfl
theorem fb_cons_its {c : UInt8} {r : List UInt8} (h : its c = true) : fb (c :: r) = some (c, 1) := by rw [fb_cons, if_pos h]
theorem its_92 : its 92 = false := by decide
theorem its_34 : its 34 = false := by decide
theorem fb_esc (a b : UInt8) (r : List UInt8) : fb (92 :: 120 :: a :: b :: r) = match hexB a b with | some x => if its x then none else some (x, 4) | none => none := by
  rw [fb_cons, its_92]; rfl
/-- fb's answer is a whole form -/
theorem fb_some {s : List UInt8} {x : UInt8} {n : Nat} (h : fb s = some (x, n)) : qb x = s.take n ∧ 0 < n ∧ n ≤ s.length := by
  match s with
  | [] => simp [fb] at h
  | c :: r =>
    by_cases hc : its c = true
    · rw [fb_cons_its hc] at h
      simp at h
      obtain ⟨rfl, rfl⟩ := h
      simp [qb, hc]
    · rw [fb_cons, if_neg hc] at h
      unfold esc at h
      split at h
      · rename_i a b r' e
        injection e with e1 e2
        subst e1 e2
        split at h
        · rename_i y hy
          split at h
          · cases h
          · rename_i hz
            simp at h
            obtain ⟨rfl, rfl⟩ := h
            obtain ⟨h1, h2⟩ := hexB_some hy
            simp [qb, hz, h1, h2]
        · cases h
      · cases h
theorem fb_qb (x : UInt8) (r : List UInt8) : fb (qb x ++ r) = some (x, (qb x).length) := by
  unfold qb
  by_cases h : its x = true
  · rw [if_pos h]; simp [fb_cons_its h]
  · rw [if_neg h]
    show fb (92 :: 120 :: _ :: _ :: r) = _
    rw [fb_esc, hexB_back]
    simp [h]
/-- what stands between the marks, read with f steps at most -/
def uqs : Nat → List UInt8 → Option (List UInt8)
  | _, [] => some []
  | 0, _ :: _ => none
  | f + 1, s => match fb s with
    | some (x, n) => (uqs f (s.drop n)).map (x :: ·)
    | none => none
def unq (s : List UInt8) : Option (List UInt8) :=
  if s.length < 2 ∨ s.head? ≠ some 34 ∨ s.getLast? ≠ some 34 then none else uqs s.length ((s.drop 1).dropLast)
theorem uqs_once : ∀ f s x, uqs f s = some x → qs x = s
  | _, [], x, h => by unfold uqs at h; simp at h; subst h; rfl
  | 0, c :: r, x, h => by simp [uqs] at h
  | f + 1, c :: r, x, h => by
    simp only [uqs] at h
    split at h
    · rename_i y n hy
      obtain ⟨l, hl, rfl⟩ := Option.map_eq_some_iff.1 h
      obtain ⟨h1, _, _⟩ := fb_some hy
      rw [qs, h1, uqs_once f _ l hl, List.take_append_drop]
    · cases h
theorem qb_pos (x : UInt8) : 0 < (qb x).length := by unfold qb; split <;> simp
theorem uqs_back : ∀ (f : Nat) (l : List UInt8), (qs l).length ≤ f → uqs f (qs l) = some l
  | _, [], _ => by simp [qs, uqs]
  | 0, b :: r, h => by
    have h0 := qb_pos b
    have h1 : (qs (b :: r)).length = (qb b).length + (qs r).length := by simp [qs]
    omega
  | f + 1, b :: r, h => by
    have h0 := qb_pos b
    have h1 : (qs (b :: r)).length = (qb b).length + (qs r).length := by simp [qs]
    have e : ∃ c t, qs (b :: r) = c :: t := by
      cases hq : qs (b :: r) with
      | nil => rw [hq] at h1; simp at h1; omega
      | cons c t => exact ⟨c, t, rfl⟩
    obtain ⟨c, t, e⟩ := e
    rw [e]
    simp only [uqs]
    rw [← e, qs, fb_qb]
    simp only [List.drop_left']
    rw [uqs_back f r (by omega)]
    rfl
theorem quote_once (s x : List UInt8) (h : unq s = some x) : quo x = s := by
  unfold unq at h
  split at h
  · cases h
  · rename_i hc
    simp only [not_or, Nat.not_lt, ne_eq, Decidable.not_not] at hc
    obtain ⟨h2, hh, hl⟩ := hc
    have h3 := uqs_once _ _ _ h
    match s with
    | a :: r =>
      simp at hh
      subst hh
      simp at h2
      unfold quo
      rw [h3]
      have hr : r ≠ [] := by intro e; subst e; simp at h2
      rw [List.getLast?_cons_of_ne_nil hr] at hl
      simp only [List.drop_one, List.tail_cons]
      rw [List.getLast?_eq_some_getLast hr] at hl
      injection hl with hl
      rw [← hl, List.dropLast_concat_getLast]
theorem quote_back (x : List UInt8) : unq (quo x) = some x := by
  unfold unq
  rw [if_neg]
  · rw [show ((quo x).drop 1).dropLast = qs x by simp [quo]]
    exact uqs_back _ _ (by simp [quo]; omega)
  · simp [quo]
    exact List.getLast?_concat (l := 34 :: qs x)
theorem qs_append : ∀ a b, qs (a ++ b) = qs a ++ qs b
  | [], b => rfl
  | x :: a, b => by simp [qs, qs_append a b]
theorem qs_length : ∀ l : List UInt8, l.length ≤ (qs l).length ∧ (qs l).length ≤ 4 * l.length
  | [] => by simp [qs]
  | x :: a => by
    have := qs_length a
    have h : (qb x).length = 1 ∨ (qb x).length = 4 := by unfold qb; split <;> simp
    simp [qs]
    omega

end TextNum
