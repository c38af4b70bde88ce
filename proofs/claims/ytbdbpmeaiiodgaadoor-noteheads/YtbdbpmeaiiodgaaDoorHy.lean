import Derived.Test.YtbdbpmeaiiodgaaDoorHz
namespace Go.Proofs.YtbdbpmeaiiodgaaDoor
open Go.RowKit Go.Shelf TextNum
theorem lines_more : ∀ (xs : List (List UInt8)) (t : List UInt8), (∀ x, x ∈ xs → (10 : UInt8) ∉ x) → linesOf (joinL xs ++ t) = xs ++ linesOf t
  | [], t, _ => rfl
  | x :: xs, t, h => by
    have e : joinL (x :: xs) ++ t = x ++ 10 :: (joinL xs ++ t) := by simp [joinL_cons]
    rw [e, linesOf_cons (by simp), take_line (h x (by simp)), drop_line (h x (by simp)), lines_more xs t (fun y hy => h y (by simp [hy]))]
    rfl
theorem joinL_snoc (xs : List (List UInt8)) (x : List UInt8) : joinL (xs ++ [x]) = joinL xs ++ (x ++ [10]) := by simp [joinL]
/-- how far the text has been cut -/
structure LI (l : List UInt8) (xs : List (List UInt8)) (f i : Nat) : Prop where
  k : xs.length ≤ 3
  fi : f ≤ i
  il : i ≤ l.length
  ft : l.take f = joinL xs
  no : ∀ x, x ∈ xs → (10 : UInt8) ∉ x
  nr : (10 : UInt8) ∉ (l.drop f).take (i - f)
theorem LI.zero (l : List UInt8) : LI l [] 0 0 := ⟨by simp, by omega, by omega, by simp [joinL], by simp, by simp⟩
theorem drop_take_snoc {l : List UInt8} {f i : Nat} (hf : f ≤ i) (hi : i < l.length) : (l.drop f).take (i + 1 - f) = (l.drop f).take (i - f) ++ [l[i]] := by
  rw [show i + 1 - f = (i - f) + 1 by omega, List.take_succ_eq_append_getElem (by rw [List.length_drop]; omega), List.getElem_drop]
  congr 3
  omega
theorem LI.skip {l : List UInt8} {xs : List (List UInt8)} {f i : Nat} (h : LI l xs f i) (hi : i < l.length) (hc : l[i] ≠ 10) : LI l xs f (i + 1) := by
  refine ⟨h.k, by have := h.fi; omega, hi, h.ft, h.no, ?_⟩
  rw [drop_take_snoc h.fi hi]
  simp only [List.mem_append, List.mem_cons, List.not_mem_nil, or_false, not_or]
  exact ⟨h.nr, fun e => hc e.symm⟩
theorem LI.hit {l : List UInt8} {xs : List (List UInt8)} {f i : Nat} (h : LI l xs f i) (hk : xs.length < 3) (hi : i < l.length) (hc : l[i] = 10) : LI l (xs ++ [(l.drop f).take (i - f)]) (i + 1) (i + 1) := by
  refine ⟨by simp; omega, by omega, hi, ?_, ?_, by simp⟩
  · rw [joinL_snoc, ← h.ft]
    have h1 := h.fi
    have e : l.take (i + 1) = l.take f ++ (l.drop f).take (i + 1 - f) := by
      rw [← List.take_add, show f + (i + 1 - f) = i + 1 by omega]
    rw [e, drop_take_snoc h1 hi, hc]
  · intro x hx
    rcases List.mem_append.1 hx with hx | hx
    · exact h.no x hx
    · rw [List.mem_singleton] at hx
      subst hx
      exact h.nr
theorem LI.end' {l : List UInt8} {xs : List (List UInt8)} {f i : Nat} (h : LI l xs f i) (he : i = l.length ∨ xs.length = 3) {a b c : List UInt8} (habc : linesOf l = [a, b, c]) (hl : lnE l = 0) : xs = [a, b, c] := by
  have e : l = joinL xs ++ l.drop f := by rw [← h.ft, List.take_append_drop]
  have e2 : linesOf l = xs ++ linesOf (l.drop f) := by
    conv => lhs; rw [e]
    exact lines_more xs _ h.no
  rw [habc] at e2
  by_cases h3 : xs.length = 3
  · have h4 := congrArg List.length e2
    simp only [List.length_cons, List.length_nil, List.length_append] at h4
    have h5 : linesOf (l.drop f) = [] := List.length_eq_zero_iff.1 (by omega)
    rw [h5, List.append_nil] at e2
    exact e2.symm
  · have hi : i = l.length := he.resolve_right h3
    have hnr := h.nr
    rw [List.take_of_length_le (by rw [List.length_drop]; omega)] at hnr
    by_cases h0 : l.drop f = []
    · rw [h0, linesOf_nil, List.append_nil] at e2
      rw [← e2] at h3
      simp at h3
    · exfalso
      have hlast : l.getLast? = some 10 := by
        unfold lnE at hl
        split at hl
        · omega
        · split at hl
          · rename_i h7
            rcases h7 with h7 | h7
            · rw [h7] at h0; simp at h0
            · exact h7
          · omega
      rw [e, List.getLast?_append] at hlast
      cases hd : (l.drop f).getLast? with
      | none => exact h0 (List.getLast?_eq_none_iff.1 hd)
      | some x =>
        rw [hd] at hlast
        have hx : x = 10 := by simpa using hlast
        exact hnr (hx ▸ List.mem_of_getLast? hd)
/-- the number that is read loosely -/
def nz : Int → List UInt8 → Int
  | a, [] => a
  | a, c :: r => nz (a * 10 + (c.toNat : Int) - 48) r
theorem nz_snoc (a : Int) (l : List UInt8) (c : UInt8) : nz a (l ++ [c]) = nz a l * 10 + (c.toNat : Int) - 48 := by
  induction l generalizing a with
  | nil => rfl
  | cons x l ih => simp only [List.cons_append, nz]; exact ih _
def bnd : Nat → Nat → Nat
  | 0, A => A
  | k + 1, A => bnd k (10 * A + 207)
theorem nz_bnd : ∀ (l : List UInt8) (a : Int) (A : Nat), -(A : Int) ≤ a → a ≤ (A : Int) → -(bnd l.length A : Int) ≤ nz a l ∧ nz a l ≤ (bnd l.length A : Int)
  | [], a, A, h1, h2 => ⟨h1, h2⟩
  | c :: r, a, A, h1, h2 => by
    have hc := c.toNat_lt
    exact nz_bnd r _ (10 * A + 207) (by omega) (by omega)
theorem nz_bound {l : List UInt8} (h : l.length ≤ 16) : -300000000000000000 ≤ nz 0 l ∧ nz 0 l ≤ 300000000000000000 := by
  have h1 := nz_bnd l 0 0 (by omega) (by omega)
  have h2 : ∀ k : Fin 17, bnd k.1 0 ≤ 300000000000000000 := by decide
  have h3 := h2 ⟨l.length, by omega⟩
  simp only at h3
  omega
theorem nz_digits : ∀ (l : List UInt8) (a : Nat), l.all isD = true → nz (a : Int) l = (nvf a l : Int)
  | [], a, _ => rfl
  | c :: r, a, h => by
    simp only [List.all_cons, Bool.and_eq_true] at h
    have hc := isD_iff.1 h.1
    rw [nz, nvf_cons, show (a : Int) * 10 + (c.toNat : Int) - 48 = ((10 * a + (c.toNat - 48) : Nat) : Int) by omega]
    exact nz_digits r _ h.2
theorem nz_itoa {n : Int} (h : 0 ≤ n) : nz 0 (Go.Lib.itoa n) = n := by
  obtain ⟨u, rfl⟩ := Int.eq_ofNat_of_zero_le h
  rw [itoa_nat]
  have := nz_digits (Go.Lib.decDigits u) 0 (dec_all u)
  rw [show ((0 : Nat) : Int) = 0 from rfl] at this
  rw [this]
  exact congrArg _ (nv_dec u)
theorem dig_pow : ∀ (k u : Nat), k < Go.Lib.nDigits u → 10 ^ k ≤ u ∨ k = 0 := by
  intro k
  induction k with
  | zero => intro u _; exact .inr rfl
  | succ k ih =>
    intro u hk
    left
    by_cases h : u < 10
    · rw [Go.Lib.nDigits_small h] at hk; omega
    · rw [Go.Lib.nDigits_big h] at hk
      rcases ih (u / 10) (by omega) with h2 | rfl
      · rw [Nat.pow_succ]; omega
      · simp; omega
theorem itoa_16 {n : Int} (h : 0 ≤ n) (h1 : n ≤ 281474976710656) : (Go.Lib.itoa n).length ≤ 16 := by
  obtain ⟨u, rfl⟩ := Int.eq_ofNat_of_zero_le h
  rw [itoa_nat, Go.Lib.decDigits_length]
  rcases Nat.lt_or_ge 16 (Go.Lib.nDigits u) with h2 | h2
  · rcases dig_pow 16 u h2 with h3 | h3
    · simp only [Nat.reducePow] at h3; omega
    · omega
  · exact h2
/-- 32 bytes of a list -/
def pad (b : List UInt8) : List UInt8 := (b ++ List.replicate 32 0).take 32
theorem pad_len (b : List UInt8) : (pad b).length = 32 := by simp [pad]
theorem pad_eq {b : List UInt8} (h : b.length = 32) : pad b = b := by
  unfold pad
  rw [List.take_append_of_le_length (by omega), List.take_of_length_le (by omega)]
/-- what the document answers of a head's text, read loosely -/
def lhd (xs : List (List UInt8)) : ByteArray × Int × List UInt8 := (⟨(xs.getD 0 []).toArray⟩, nz 0 ((xs.getD 1 []).take 16), pad (b64R (xs.getD 2 [])).1)
theorem loose_some {l a r : List UInt8} {n : Int} {xs : List (List UInt8)} {f i : Nat} (h : rdH l = some (a, n, r)) (hL : LI l xs f i) (he : i = l.length ∨ xs.length = 3) : lhd xs = (⟨a.toArray⟩, n, r) := by
  obtain ⟨hE, a', b, c, habc, h3, h4, h5, h6, e⟩ := rdH_some h
  obtain rfl := hL.end' he habc hE
  injection e with e1 e2
  injection e2 with e2 e3
  obtain ⟨p1, p2, p3⟩ := prs_fine h4 e2.symm
  unfold lhd
  simp only [List.getD_cons_zero, List.getD_cons_succ]
  rw [← p1, List.take_of_length_le (itoa_16 p2 p3), nz_itoa p2, pad_eq h6, e1, e3]
theorem loose_none {l : List UInt8} {o : ByteArray} {n : Int} {r : List UInt8} (hr : r.length = 32) (h : fmtH o n r = (l, 0)) : rdH l = some (o.data.toList, n, r) := by
  unfold fmtH at h
  split at h
  · injection h with _ h; omega
  · rename_i h1
    split at h
    · injection h with _ h; omega
    · rename_i h2
      injection h with h _
      subst h
      exact head_back (Decidable.not_not.1 h1) (by omega) (by omega) hr
theorem rdH_short {l : List UInt8} {x : List UInt8 × Int × List UInt8} (h : rdH l = some x) : l.length ≤ 1024 := by
  obtain ⟨a, n, r⟩ := x
  obtain ⟨h1, h2, h3, h4⟩ := head_once h
  unfold fmtH at h1
  split at h1
  · injection h1 with _ h1; omega
  · rename_i hn
    split at h1
    · injection h1 with _ h1; omega
    · injection h1 with h1 _
      have h5 := ((name_iff _).1 (Decidable.not_not.1 hn)).2.1
      rw [Go.Lib.size_eq] at h5
      have h6 := itoa_16 h3 h4
      have h7 : (b64E r).length = 44 := by rw [b64E_length, h2]
      rw [← h1]
      simp only [headT, List.length_append, List.length_cons, List.length_nil]
      simp only at h5
      omega
end Go.Proofs.YtbdbpmeaiiodgaaDoor
