import Derived.Lib.ItoaNum
import Derived.Lib.ParseIntBTie
/-! plain lemmas on numerals; no model in it -/
namespace TextNum
open Go.Lib (decDigits itoa parseIntB parseUintB parseUintM NumEnd)

def isD (c : UInt8) : Bool := decide (48 ≤ c.toNat) && decide (c.toNat ≤ 57)
/-- one or more digits, and no zero ahead of another one -/
def isN (l : List UInt8) : Bool := l.all isD && (decide (l.length = 1) || (decide (1 < l.length) && decide (l.head? ≠ some 48)))
def nvf (a : Nat) (l : List UInt8) : Nat := l.foldl (fun a c => 10 * a + (c.toNat - 48)) a
def nv (l : List UInt8) : Nat := nvf 0 l
theorem nvf_cons (a : Nat) (c : UInt8) (r : List UInt8) : nvf a (c :: r) = nvf (10 * a + (c.toNat - 48)) r := by unfold nvf; rw [List.foldl_cons]
theorem nvf_le (a : Nat) (l : List UInt8) : a ≤ nvf a l := by
  induction l generalizing a with
  | nil => exact Nat.le_refl _
  | cons c r ih => rw [nvf_cons]; have := ih (10 * a + (c.toNat - 48)); omega
theorem nv_snoc (l : List UInt8) (c : UInt8) : nv (l ++ [c]) = 10 * nv l + (c.toNat - 48) := by simp [nv, nvf]
theorem isD_iff {c : UInt8} : isD c = true ↔ 48 ≤ c.toNat ∧ c.toNat ≤ 57 := by simp [isD]

theorem parseM : ∀ (l : List UInt8) (acc : Nat), l.all isD = true → acc ≤ 18446744073709551615 →
    parseUintM 18446744073709551615 acc l = if nvf acc l ≤ 18446744073709551615 then .ok (nvf acc l) else .range
  | [], acc, _, h => by simp only [parseUintM]; rw [if_pos (show nvf acc [] ≤ _ from h)]; rfl
  | c :: r, acc, hd, h => by
    simp only [List.all_cons, Bool.and_eq_true] at hd
    have hc := isD_iff.1 hd.1
    simp only [parseUintM]
    rw [if_pos hc, nvf_cons]
    have hm := nvf_le (10 * acc + (c.toNat - 48)) r
    have e : acc * 10 + (c.toNat - 48) = 10 * acc + (c.toNat - 48) := by omega
    rw [e]
    by_cases h1 : 1844674407370955162 ≤ acc
    · rw [if_pos h1, if_neg (by omega)]
    · rw [if_neg h1]
      by_cases h2 : 18446744073709551615 < 10 * acc + (c.toNat - 48)
      · rw [if_pos h2, if_neg (by omega)]
      · rw [if_neg h2]
        exact parseM r _ hd.2 (by omega)

theorem isN_cons {l : List UInt8} (h : isN l = true) : ∃ c r, l = c :: r ∧ isD c = true := by
  match l with
  | [] => simp [isN] at h
  | c :: r => exact ⟨c, r, rfl, by simp [isN] at h; exact h.1.1⟩
theorem parse_isN {l : List UInt8} (h : isN l = true) : parseIntB 64 l = if nv l < 9223372036854775808 then .ok (nv l : Int) else .range := by
  obtain ⟨c, r, rfl, hc⟩ := isN_cons h
  have hd : (c :: r).all isD = true := by simp only [isN, Bool.and_eq_true] at h; exact h.1
  have hc' := isD_iff.1 hc
  simp only [parseIntB]
  rw [if_neg (by omega)]
  unfold parseUintB
  rw [if_neg (by simp), show (2 ^ 64 - 1 : Nat) = 18446744073709551615 by decide, parseM _ 0 hd (by omega)]
  rw [show nvf 0 (c :: r) = nv (c :: r) from rfl]
  have h45 : ¬ c.toNat = 45 := by omega
  by_cases h1 : nv (c :: r) ≤ 18446744073709551615
  · rw [if_pos h1]
    simp only [h45, not_false_eq_true, true_and, false_and, if_false, Nat.reduceSub, Nat.reducePow]
    by_cases h2 : nv (c :: r) < 9223372036854775808
    · rw [if_pos h2, if_neg (by omega)]
    · rw [if_neg h2, if_pos (by omega)]
  · rw [if_neg h1, if_neg (by omega)]

/-- a numeral is its number's -/
theorem dec_nv : ∀ (l : List UInt8), isN l = true → decDigits (nv l) = l := by
  have key : ∀ n (l : List UInt8), l.length = n → isN l = true → decDigits (nv l) = l := by
    intro n
    induction n with
    | zero => intro l hl h; obtain ⟨c, r, rfl, _⟩ := isN_cons h; simp at hl
    | succ n ih =>
      intro l hl h
      obtain ⟨c, r, e, hc⟩ := isN_cons h
      rcases List.eq_nil_or_concat l with e0 | ⟨t, d, e1⟩
      · rw [e0] at e; cases e
      · rw [List.concat_eq_append] at e1
        subst e1
        have hd : t.all isD = true ∧ isD d = true := by simp only [isN, Bool.and_eq_true, List.all_append, List.all_cons, List.all_nil] at h; exact ⟨h.1.1, h.1.2.1⟩
        have hdd := isD_iff.1 hd.2
        rw [nv_snoc]
        have hl' : t.length = n := by simp at hl; exact hl
        cases n with
        | zero =>
          obtain rfl := List.eq_nil_of_length_eq_zero hl'
          rw [Go.Lib.decDigits_one (by simp [nv, nvf]; omega)]
          simp only [nv, nvf, List.foldl_nil, List.nil_append]
          rw [show 48 + (10 * 0 + (d.toNat - 48)) = d.toNat by omega, UInt8.ofNat_toNat]
        | succ m =>
          obtain ⟨c', r', rfl⟩ : ∃ c' r', t = c' :: r' := by
            cases t with
            | nil => simp at hl'
            | cons a b => exact ⟨a, b, rfl⟩
          have hh : c' ≠ 48 := by
            simp only [isN, Bool.and_eq_true, Bool.or_eq_true, decide_eq_true_eq] at h
            rcases h.2 with h2 | h2
            · simp at h2
            · simpa using h2.2
          have hN : isN (c' :: r') = true := by
            simp only [isN, Bool.and_eq_true, Bool.or_eq_true, decide_eq_true_eq]
            refine ⟨hd.1, ?_⟩
            by_cases hr : r' = []
            · subst hr; exact .inl rfl
            · exact .inr ⟨by have := List.length_pos_iff.2 hr; simp; omega, by simpa using hh⟩
          have hpos : 1 ≤ nv (c' :: r') := by
            have h1 := isD_iff.1 (by simp only [List.all_cons, Bool.and_eq_true] at hd; exact hd.1.1 : isD c' = true)
            have h2 := nvf_le (10 * 0 + (c'.toNat - 48)) r'
            have h3 : c'.toNat ≠ 48 := fun e => hh (by apply UInt8.toNat_inj.1; simpa using e)
            show 1 ≤ nvf 0 (c' :: r')
            rw [nvf_cons]
            omega
          have h3 := ih _ hl' hN
          rw [decDigits, dif_neg (by omega), show (10 * nv (c' :: r') + (d.toNat - 48)) / 10 = nv (c' :: r') by omega, h3,
            show (10 * nv (c' :: r') + (d.toNat - 48)) % 10 = d.toNat - 48 by omega, show 48 + (d.toNat - 48) = d.toNat by omega, UInt8.ofNat_toNat]
  exact fun l h => key _ l rfl h

theorem dig_toNat {n : Nat} (h : n < 10) : (UInt8.ofNat (48 + n)).toNat = 48 + n := by simp [UInt8.toNat_ofNat']; omega
theorem nv_dec (u : Nat) : nv (decDigits u) = u := by
  induction u using Nat.strongRecOn with
  | _ u ih =>
    by_cases h : u < 10
    · rw [Go.Lib.decDigits_one h]
      simp only [nv, nvf, List.foldl_cons, List.foldl_nil]
      rw [dig_toNat h]; omega
    · rw [decDigits, dif_neg h, nv_snoc, ih _ (by omega), dig_toNat (by omega)]; omega
theorem dec_head (u : Nat) : 1 ≤ u → (decDigits u).head? ≠ some 48 := by
  induction u using Nat.strongRecOn with
  | _ u ih =>
    intro hu
    by_cases h : u < 10
    · rw [Go.Lib.decDigits_one h]
      intro e
      have := congrArg UInt8.toNat (Option.some.inj e)
      rw [dig_toNat h] at this
      simp at this; omega
    · rw [decDigits, dif_neg h, List.head?_append]
      have := ih (u / 10) (by omega) (by omega)
      cases hh : (decDigits (u / 10)).head? with
      | none => rw [List.head?_eq_none_iff] at hh; have h0 := Go.Lib.decDigits_length (u / 10); rw [hh] at h0; have := Go.Lib.nDigits_pos (u / 10); simp at h0; omega
      | some c => rw [hh] at this; simpa using this
theorem dec_all (u : Nat) : (decDigits u).all isD = true := by
  induction u using Nat.strongRecOn with
  | _ u ih =>
    by_cases h : u < 10
    · rw [Go.Lib.decDigits_one h]
      simp only [List.all_cons, List.all_nil, Bool.and_true]
      rw [isD_iff, dig_toNat h]; omega
    · rw [decDigits, dif_neg h, List.all_append, ih _ (by omega)]
      simp only [List.all_cons, List.all_nil, Bool.and_true, Bool.true_and]
      rw [isD_iff, dig_toNat (by omega)]; omega
theorem isN_dec (u : Nat) : isN (decDigits u) = true := by
  simp only [isN, Bool.and_eq_true, Bool.or_eq_true, decide_eq_true_eq]
  refine ⟨dec_all u, ?_⟩
  have hl := Go.Lib.decDigits_length u
  by_cases h : u < 10
  · left; rw [Go.Lib.decDigits_one h]; rfl
  · right
    refine ⟨by rw [hl, Go.Lib.nDigits_big h]; have := Go.Lib.nDigits_pos (u / 10); omega, dec_head u (by omega)⟩
theorem isN_neg (n : Int) (h : n < 0) : isN (itoa n) = false := by
  unfold itoa
  rw [if_pos h]
  simp [isN, isD]
theorem itoa_nat (n : Nat) : itoa (n : Int) = decDigits n := by
  unfold itoa
  rw [if_neg (by omega)]; simp
theorem itoa_len (n : Int) (h0 : -9223372036854775808 ≤ n) (h1 : n ≤ 9223372036854775807) : (itoa n).length ≤ 20 ∧ 1 ≤ (itoa n).length := by
  have key : ∀ u : Nat, u ≤ 9223372036854775808 → (decDigits u).length ≤ 19 ∧ 1 ≤ (decDigits u).length := by
    intro u hu
    rw [Go.Lib.decDigits_length]
    refine ⟨?_, Go.Lib.nDigits_pos u⟩
    rcases Nat.lt_or_ge 19 (Go.Lib.nDigits u) with h | h
    · exfalso
      have : ∀ k u, k < Go.Lib.nDigits u → 10 ^ k ≤ u ∨ k = 0 := by
        intro k
        induction k with
        | zero => intro u _; exact .inr rfl
        | succ k ih =>
          intro u hk
          left
          by_cases h : u < 10
          · rw [Go.Lib.nDigits_small h] at hk; omega
          · rw [Go.Lib.nDigits_big h] at hk
            rcases ih (u / 10) (by omega) with h2 | rfl
            · rw [Nat.pow_succ]; omega
            · simp; omega
      rcases this 19 u h with h2 | h2
      · simp only [Nat.reducePow] at h2; omega
      · omega
    · exact h
  unfold itoa
  split
  · have := key n.natAbs (by omega); simp; omega
  · have := key n.toNat (by omega); omega

/-- what ParseNumber answers: the number and the error -/
def prs (l : List UInt8) (max : Int) : Int × Int :=
  if 1048576 < l.length then (0, 2) else if isN l = true then (if (nv l : Int) ≤ max ∧ nv l < 9223372036854775808 then ((nv l : Int), 0) else (0, 63)) else (0, 62)
theorem num_once (l : List UInt8) (h : (prs l 9223372036854775807).2 = 0) : itoa (prs l 9223372036854775807).1 = l := by
  unfold prs at h ⊢
  split at h
  · cases h
  · rw [if_neg (by assumption)]
    split at h
    · rename_i hn
      rw [if_pos hn]
      split at h
      · rename_i h2
        rw [if_pos h2]
        simp only
        rw [itoa_nat, dec_nv l hn]
      · cases h
    · cases h
end TextNum
