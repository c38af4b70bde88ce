import Derived.Test.YtaphjbcnnkoffaaGreatDoorPu
/-! plain lemmas on base64; no model in it -/
namespace TextNum

/-- the four letters of one to three bytes -/
def g1 (x : UInt8) : List UInt8 := [lt (x.toNat / 4), lt (x.toNat % 4 * 16), 61, 61]
def g2 (x y : UInt8) : List UInt8 := [lt (x.toNat / 4), lt (x.toNat % 4 * 16 + y.toNat / 16), lt (y.toNat % 16 * 4), 61]
def g3 (x y z : UInt8) : List UInt8 := [lt (x.toNat / 4), lt (x.toNat % 4 * 16 + y.toNat / 16), lt (y.toNat % 16 * 4 + z.toNat / 64), lt (z.toNat % 64)]
def b64E : List UInt8 → List UInt8
  | [] => []
  | [x] => g1 x
  | [x, y] => g2 x y
  | x :: y :: z :: r => g3 x y z ++ b64E r

theorem b64E_length : ∀ l, (b64E l).length = (l.length + 2) / 3 * 4
  | [] => rfl
  | [x] => by simp [b64E, g1]
  | [x, y] => by simp [b64E, g2]
  | x :: y :: z :: r => by simp [b64E, g3, b64E_length r]; omega
theorem b64E_append : ∀ a b, a.length % 3 = 0 → b64E (a ++ b) = b64E a ++ b64E b
  | [], b, _ => rfl
  | [x], b, h => by simp at h
  | [x, y], b, h => by simp at h
  | x :: y :: z :: r, b, h => by
    have : r.length % 3 = 0 := by simp at h; omega
    simp [b64E, b64E_append r b this]

/-- the loop over the letters: how many bits are held, which -/
def dl (cnt bits : Nat) : List UInt8 → Option (List UInt8)
  | [] => if bits = 0 then some [] else none
  | c :: r => match pl LT c with
    | none => none
    | some n => if 8 ≤ cnt + 6 then (dl (cnt + 6 - 8) ((bits * 64 + n) % 2 ^ (cnt + 6 - 8)) r).map (UInt8.ofNat ((bits * 64 + n) / 2 ^ (cnt + 6 - 8)) :: ·)
      else dl (cnt + 6) (bits * 64 + n) r

def strip1 (s : List UInt8) : List UInt8 := if s.getLast? = some 61 then s.dropLast else s
def b64D (s : List UInt8) : Option (List UInt8) := if s.length % 4 = 0 then dl 0 0 (strip1 (strip1 s)) else none

theorem ofNat_toNat {n : Nat} (h : n < 256) : (UInt8.ofNat n).toNat = n := by simp [UInt8.toNat_ofNat']; omega

/-- four letters, three bytes -/
theorem dl_four (a b c d : UInt8) (r : List UInt8) : dl 0 0 (a :: b :: c :: d :: r) = match pl LT a, pl LT b, pl LT c, pl LT d with
    | some i, some j, some k, some m => (dl 0 0 r).map fun l => UInt8.ofNat (i * 4 + j / 16) :: UInt8.ofNat (j % 16 * 16 + k / 4) :: UInt8.ofNat (k % 4 * 64 + m) :: l
    | _, _, _, _ => none := by
  simp only [dl]
  cases ha : pl LT a with
  | none => rfl
  | some i =>
    cases hb : pl LT b with
    | none => rfl
    | some j =>
      have hi := (pl_lt' ha).2
      have hj := (pl_lt' hb).2
      cases hc : pl LT c with
      | none => simp
      | some k =>
        have hk := (pl_lt' hc).2
        cases hd : pl LT d with
        | none => simp
        | some m =>
          have hm := (pl_lt' hd).2
          simp only [Nat.zero_mul, Nat.zero_add, Nat.reduceLeDiff, Nat.reduceAdd, Nat.reduceSub, if_true, if_false, Nat.reducePow, Option.map_map, Nat.pow_zero, Nat.mod_one, Nat.div_one]
          have e1 : (i * 64 + j) / 16 = i * 4 + j / 16 := by omega
          have e2 : ((i * 64 + j) % 16 * 64 + k) / 4 = j % 16 * 16 + k / 4 := by omega
          have e3 : ((i * 64 + j) % 16 * 64 + k) % 4 * 64 + m = k % 4 * 64 + m := by omega
          rw [e1, e2, e3]
          rfl

theorem map_g3 (i j k m : Nat) (hi : i < 64) (hj : j < 64) (hk : k < 64) (hm : m < 64) :
    g3 (UInt8.ofNat (i * 4 + j / 16)) (UInt8.ofNat (j % 16 * 16 + k / 4)) (UInt8.ofNat (k % 4 * 64 + m)) = [lt i, lt j, lt k, lt m] := by
  unfold g3
  rw [ofNat_toNat (by omega), ofNat_toNat (by omega), ofNat_toNat (by omega)]
  rw [show (i * 4 + j / 16) / 4 = i by omega, show (i * 4 + j / 16) % 4 * 16 + (j % 16 * 16 + k / 4) / 16 = j by omega, show (j % 16 * 16 + k / 4) % 16 * 4 + (k % 4 * 64 + m) / 64 = k by omega, show (k % 4 * 64 + m) % 64 = m by omega]

/-- what is read is the one text -/
theorem dl_once : ∀ (t x : List UInt8), dl 0 0 t = some x → t.length % 4 ≠ 1 → b64E x = t ++ List.replicate ((4 - t.length % 4) % 4) 61
  | [], x, h, _ => by simp [dl] at h; subst h; rfl
  | [a], x, h, h1 => by simp at h1
  | [a, b], x, h, _ => by
    simp only [dl] at h
    cases ha : pl LT a with
    | none => simp [ha] at h
    | some i =>
      cases hb : pl LT b with
      | none => simp [ha, hb] at h
      | some j =>
        obtain ⟨ea, hi⟩ := pl_lt' ha
        obtain ⟨eb, hj⟩ := pl_lt' hb
        simp [ha, hb] at h
        obtain ⟨h0, rfl⟩ := h
        have e1 : (i * 64 + j) / 16 = i * 4 + j / 16 := by omega
        have e0 : j % 16 = 0 := by omega
        simp only [b64E, g1]
        rw [ofNat_toNat (by omega), e1, show (i * 4 + j / 16) / 4 = i by omega, show (i * 4 + j / 16) % 4 * 16 = j by omega, ea, eb]
        rfl
  | [a, b, c], x, h, _ => by
    simp only [dl] at h
    cases ha : pl LT a with
    | none => simp [ha] at h
    | some i =>
      cases hb : pl LT b with
      | none => simp [ha, hb] at h
      | some j =>
        cases hc : pl LT c with
        | none => simp [ha, hb, hc] at h
        | some k =>
          obtain ⟨ea, hi⟩ := pl_lt' ha
          obtain ⟨eb, hj⟩ := pl_lt' hb
          obtain ⟨ec, hk⟩ := pl_lt' hc
          simp [ha, hb, hc] at h
          obtain ⟨_, ⟨h0, rfl⟩, rfl⟩ := h
          have e1 : (i * 64 + j) / 16 = i * 4 + j / 16 := by omega
          have e2 : ((i * 64 + j) % 16 * 64 + k) / 4 = j % 16 * 16 + k / 4 := by omega
          simp only [b64E, g2]
          rw [ofNat_toNat (by omega), ofNat_toNat (by omega), e1, e2, show (i * 4 + j / 16) / 4 = i by omega, show (i * 4 + j / 16) % 4 * 16 + (j % 16 * 16 + k / 4) / 16 = j by omega, show (j % 16 * 16 + k / 4) % 16 * 4 = k by omega, ea, eb, ec]
          rfl
  | a :: b :: c :: d :: r, x, h, h1 => by
    rw [dl_four] at h
    split at h
    · rename_i i j k m ha hb hc hd
      obtain ⟨l, hl, rfl⟩ := Option.map_eq_some_iff.1 h
      obtain ⟨ea, hi⟩ := pl_lt' ha
      obtain ⟨eb, hj⟩ := pl_lt' hb
      obtain ⟨ec, hk⟩ := pl_lt' hc
      obtain ⟨ed, hm⟩ := pl_lt' hd
      have hr : r.length % 4 ≠ 1 := by simp at h1; omega
      simp only [b64E]
      rw [map_g3 i j k m hi hj hk hm, dl_once r l hl hr, ea, eb, ec, ed]
      have e4 : (a :: b :: c :: d :: r).length % 4 = r.length % 4 := by simp; omega
      rw [e4]
      simp
    · cases h

/-- the text without its padding -/
def bare : List UInt8 → List UInt8
  | [] => []
  | [x] => [lt (x.toNat / 4), lt (x.toNat % 4 * 16)]
  | [x, y] => [lt (x.toNat / 4), lt (x.toNat % 4 * 16 + y.toNat / 16), lt (y.toNat % 16 * 4)]
  | x :: y :: z :: r => g3 x y z ++ bare r
theorem dl_back : ∀ x, dl 0 0 (bare x) = some x
  | [] => rfl
  | [x] => by
    have hx := x.toNat_lt
    simp only [bare, dl]
    rw [lt_pl _ (by omega), lt_pl _ (by omega)]
    simp
    refine ⟨by omega, ?_⟩
    rw [show (x.toNat / 4 * 64 + x.toNat % 4 * 16) / 16 = x.toNat by omega, UInt8.ofNat_toNat]
  | [x, y] => by
    have hx := x.toNat_lt
    have hy := y.toNat_lt
    simp only [bare, dl]
    rw [lt_pl _ (by omega), lt_pl _ (by omega), lt_pl _ (by omega)]
    simp
    refine ⟨?_, ?_, ?_⟩
    · omega
    · rw [show (x.toNat / 4 * 64 + (x.toNat % 4 * 16 + y.toNat / 16)) / 16 = x.toNat by omega, UInt8.ofNat_toNat]
    · rw [show ((x.toNat / 4 * 64 + (x.toNat % 4 * 16 + y.toNat / 16)) % 16 * 64 + y.toNat % 16 * 4) / 4 = y.toNat by omega, UInt8.ofNat_toNat]
  | x :: y :: z :: r => by
    have hx := x.toNat_lt
    have hy := y.toNat_lt
    have hz := z.toNat_lt
    simp only [bare, g3, List.cons_append, List.nil_append]
    rw [dl_four, lt_pl _ (by omega), lt_pl _ (by omega), lt_pl _ (by omega), lt_pl _ (by omega)]
    simp only [dl_back r, Option.map_some]
    rw [show x.toNat / 4 * 4 + (x.toNat % 4 * 16 + y.toNat / 16) / 16 = x.toNat by omega, show (x.toNat % 4 * 16 + y.toNat / 16) % 16 * 16 + (y.toNat % 16 * 4 + z.toNat / 64) / 4 = y.toNat by omega,
      show (y.toNat % 16 * 4 + z.toNat / 64) % 4 * 64 + z.toNat % 64 = z.toNat by omega]
    simp
theorem strip1_no {s : List UInt8} (h : s.getLast? ≠ some 61) : strip1 s = s := if_neg h
theorem strip1_snoc (s : List UInt8) : strip1 (s ++ [61]) = s := by simp [strip1]
theorem bare_last : ∀ x, (bare x).getLast? ≠ some 61
  | [] => by simp [bare]
  | [x] => by have hx := x.toNat_lt; simp [bare]; exact lt_ne _ (by omega)
  | [x, y] => by have hy := y.toNat_lt; simp [bare]; exact lt_ne _ (by omega)
  | x :: y :: z :: r => by
    have hz := z.toNat_lt
    have h := bare_last r
    simp only [bare, g3]
    rw [List.getLast?_append]
    cases hr : (bare r).getLast? with
    | none => simp; exact lt_ne _ (by omega)
    | some c => rw [hr] at h; simpa using h
theorem b64E_bare : ∀ x, ∃ k, k ≤ 2 ∧ b64E x = bare x ++ List.replicate k 61
  | [] => ⟨0, by decide, rfl⟩
  | [x] => ⟨2, by decide, rfl⟩
  | [x, y] => ⟨1, by decide, rfl⟩
  | x :: y :: z :: r => by
    obtain ⟨k, hk, e⟩ := b64E_bare r
    exact ⟨k, hk, by simp [b64E, bare, e]⟩
theorem strip_pad {t : List UInt8} {k : Nat} (hk : k ≤ 2) (h : t.getLast? ≠ some 61) : strip1 (strip1 (t ++ List.replicate k 61)) = t := by
  have hc : k = 0 ∨ k = 1 ∨ k = 2 := by omega
  rcases hc with rfl | rfl | rfl
  · simp only [List.replicate_zero, List.append_nil, strip1_no h]
  · show strip1 (strip1 (t ++ [61])) = t
    rw [strip1_snoc, strip1_no h]
  · have e : t ++ List.replicate 2 61 = (t ++ [61]) ++ [61] := by simp [List.replicate]
    rw [e, strip1_snoc, strip1_snoc]
theorem b64_back (x : List UInt8) : b64D (b64E x) = some x := by
  obtain ⟨k, hk, e⟩ := b64E_bare x
  unfold b64D
  rw [if_pos (by rw [b64E_length]; omega), e, strip_pad hk (bare_last x), dl_back]
theorem strip_split (s : List UInt8) : ∃ k, k ≤ 2 ∧ s = strip1 (strip1 s) ++ List.replicate k 61 := by
  have h1 : ∀ t : List UInt8, t.getLast? = some 61 → t = t.dropLast ++ [61] := by
    intro t h
    have hn : t ≠ [] := by intro e; subst e; simp at h
    rw [List.getLast?_eq_some_getLast hn] at h
    injection h with h
    rw [← h, List.dropLast_concat_getLast]
  by_cases h : s.getLast? = some 61
  · have e1 : strip1 s = s.dropLast := if_pos h
    rw [e1]
    by_cases h2 : s.dropLast.getLast? = some 61
    · refine ⟨2, by decide, ?_⟩
      rw [show strip1 s.dropLast = s.dropLast.dropLast from if_pos h2]
      have e2 := h1 _ h2
      have e3 := h1 _ h
      rw [e2] at e3
      simpa [List.replicate] using e3
    · refine ⟨1, by decide, ?_⟩
      rw [strip1_no h2]
      exact h1 _ h
  · exact ⟨0, by decide, by rw [strip1_no h, strip1_no h]; simp⟩
theorem b64_once (s x : List UInt8) (h : b64D s = some x) : b64E x = s := by
  unfold b64D at h
  split at h
  · rename_i h4
    obtain ⟨k, hk, e⟩ := strip_split s
    have hl : s.length = (strip1 (strip1 s)).length + k := by
      have := congrArg List.length e
      simpa using this
    rw [dl_once _ _ h (by omega)]
    rw [show (4 - (strip1 (strip1 s)).length % 4) % 4 = k by omega]
    exact e.symm
  · cases h

end TextNum
