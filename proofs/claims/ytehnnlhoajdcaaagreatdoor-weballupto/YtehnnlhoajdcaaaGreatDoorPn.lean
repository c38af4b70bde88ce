import Derived.Lib.ItoaNum
import Derived.Lib.ParseIntBTie
namespace TextNum
open Go.Lib (decDigits itoa parseIntB parseUintB parseUintM NumEnd)
def isD (c : UInt8) : Bool := decide (48 ≤ c.toNat) && decide (c.toNat ≤ 57)
def isN (l : List UInt8) : Bool := l.all isD && (decide (l.length = 1) || (decide (1 < l.length) && decide (l.head? ≠ some 48)))
def nvf (a : Nat) (l : List UInt8) : Nat := l.foldl (fun a c => 10 * a + (c.toNat - 48)) a
def nv (l : List UInt8) : Nat := nvf 0 l
theorem nvf_cons (a : Nat) (c : UInt8) (r : List UInt8) : nvf a (c :: r) = nvf (10 * a + (c.toNat - 48)) r := by unfold nvf; rw [List.foldl_cons]
theorem nvf_le (a : Nat) (l : List UInt8) : a ≤ nvf a l := by
 induction l generalizing a with
 | nil => exact Nat.le_refl _
 | cons c r ih => rw [nvf_cons]; have := ih (10 * a + (c.toNat - 48)); omega
theorem nv_snoc (l : List UInt8) (c : UInt8) : nv (l ++ [c]) = 10 * nv l + (c.toNat - 48) := by simp [nv, nvf]
theorem isD_iff {c : UInt8} : isD c = true ↔ 48 ≤ c.toNat ∧ c.toNat ≤ 57 := by simp [isD]
theorem parseM : ∀ (l : List UInt8) (acc : Nat), l.all isD = true → acc ≤ 18446744073709551615 →
  parseUintM 18446744073709551615 acc l = if nvf acc l ≤ 18446744073709551615 then .ok (nvf acc l) else .range
 | [], acc, _, h => by simp only [parseUintM]; rw [if_pos (show nvf acc [] ≤ _ from h)]; rfl
 | c :: r, acc, hd, h => by
  simp only [List.all_cons, Bool.and_eq_true] at hd
  have hc := isD_iff.1 hd.1
  simp only [parseUintM]
  rw [if_pos hc, nvf_cons]
  have hm := nvf_le (10 * acc + (c.toNat - 48)) r
  have e : acc * 10 + (c.toNat - 48) = 10 * acc + (c.toNat - 48) := by omega
  rw [e]
  by_cases h1 : 1844674407370955162 ≤ acc
  · rw [if_pos h1, if_neg (by omega)]
  rw [if_neg h1]
  by_cases h2 : 18446744073709551615 < 10 * acc + (c.toNat - 48)
  · rw [if_pos h2, if_neg (by omega)]
  rw [if_neg h2]
  exact parseM r _ hd.2 (by omega)
theorem isN_cons {l : List UInt8} (h : isN l = true) : ∃ c r, l = c :: r ∧ isD c = true := by
 match l with
 | [] => simp [isN] at h
 | c :: r => exact ⟨c, r, rfl, by simp [isN] at h; exact h.1.1⟩
theorem parse_isN {l : List UInt8} (h : isN l = true) : parseIntB 64 l = if nv l < 9223372036854775808 then .ok (nv l : Int) else .range := by
 obtain ⟨c, r, rfl, hc⟩ := isN_cons h
 have hd : (c :: r).all isD = true := by simp only [isN, Bool.and_eq_true] at h; exact h.1
 have hc' := isD_iff.1 hc
 simp only [parseIntB]
 rw [if_neg (by omega)]
 unfold parseUintB
 rw [if_neg (by simp), show (2 ^ 64 - 1 : Nat) = 18446744073709551615 by decide, parseM _ 0 hd (by omega)]
 rw [show nvf 0 (c :: r) = nv (c :: r) from rfl]
 have h45 : ¬ c.toNat = 45 := by omega
 by_cases h1 : nv (c :: r) ≤ 18446744073709551615
 · rw [if_pos h1]
   simp only [h45, not_false_eq_true, true_and, false_and, if_false, Nat.reduceSub, Nat.reducePow]
   by_cases h2 : nv (c :: r) < 9223372036854775808
   · rw [if_pos h2, if_neg (by omega)]
   rw [if_neg h2, if_pos (by omega)]
 rw [if_neg h1, if_neg (by omega)]
theorem itoa_nat (n : Nat) : itoa (n : Int) = decDigits n := by
 unfold itoa
 rw [if_neg (by omega)]; simp
theorem itoa_len (n : Int) (h0 : -9223372036854775808 ≤ n) (h1 : n ≤ 9223372036854775807) : (itoa n).length ≤ 20 ∧ 1 ≤ (itoa n).length := by
 have key : ∀ u : Nat, u ≤ 9223372036854775808 → (decDigits u).length ≤ 19 ∧ 1 ≤ (decDigits u).length := by
  intro u hu
  rw [Go.Lib.decDigits_length]
  refine ⟨?_, Go.Lib.nDigits_pos u⟩
  rcases Nat.lt_or_ge 19 (Go.Lib.nDigits u) with h | h
  · exfalso
    have : ∀ k u, k < Go.Lib.nDigits u → 10 ^ k ≤ u ∨ k = 0 := by
     intro k
     induction k with
     | zero => intro u _; exact .inr rfl
     | succ k ih =>
      intro u hk
      left
      by_cases h : u < 10
      · rw [Go.Lib.nDigits_small h] at hk; omega
      rw [Go.Lib.nDigits_big h] at hk
      rcases ih (u / 10) (by omega) with h2 | rfl
      · rw [Nat.pow_succ]; omega
      simp; omega
    rcases this 19 u h with h2 | h2
    · simp only [Nat.reducePow] at h2; omega
    omega
  exact h
 unfold itoa
 split
 · have := key n.natAbs (by omega); simp; omega
 have := key n.toNat (by omega); omega
def prs (l : List UInt8) (max : Int) : Int × Int :=
 if 1048576 < l.length then (0, 2) else if isN l = true then (if (nv l : Int) ≤ max ∧ nv l < 9223372036854775808 then ((nv l : Int), 0) else (0, 63)) else (0, 62)
end TextNum
