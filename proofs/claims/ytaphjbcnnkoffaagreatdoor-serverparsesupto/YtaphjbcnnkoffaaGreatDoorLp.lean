import Derived.Test.YtaphjbcnnkoffaaGreatDoorTw
import Derived.Lib.CutLaws
import Derived.Lib.IndexLaws
import Derived.Lib.IndexBytes
namespace Go.Proofs.YtaphjbcnnkoffaaGreatDoor
open Go.RowKit TextNum
/-- the lines of a text, by at most so many -/
def lns : Nat → List UInt8 → List (List UInt8)
  | 0, _ => []
  | f + 1, l => if l = [] then [] else l.takeWhile (· != 10) :: lns f ((l.dropWhile (· != 10)).drop 1)
def linesOf (l : List UInt8) : List (List UInt8) := lns l.length l
/-- lines put together -/
def joinL (xs : List (List UInt8)) : List UInt8 := xs.flatMap (· ++ [10])
theorem tail_lt {l : List UInt8} (h : l ≠ []) : ((l.dropWhile (· != 10)).drop 1).length < l.length := by
  have h1 : (l.dropWhile (· != 10)).length ≤ l.length := (List.dropWhile_sublist _).length_le
  have h2 : 0 < l.length := List.length_pos_iff.2 h
  rw [List.length_drop]
  omega
theorem lns_fuel : ∀ (f g : Nat) (l : List UInt8), l.length ≤ f → l.length ≤ g → lns f l = lns g l
  | 0, 0, _, _, _ => rfl
  | 0, g + 1, l, hf, _ => by
    have : l = [] := List.length_eq_zero_iff.1 (by omega)
    subst this; simp [lns]
  | f + 1, 0, l, _, hg => by
    have : l = [] := List.length_eq_zero_iff.1 (by omega)
    subst this; simp [lns]
  | f + 1, g + 1, l, hf, hg => by
    unfold lns
    by_cases h : l = []
    · simp [h]
    · have := tail_lt h
      rw [if_neg h, if_neg h, lns_fuel f g _ (by omega) (by omega)]
theorem linesOf_nil : linesOf [] = [] := rfl
theorem linesOf_cons {l : List UInt8} (h : l ≠ []) : linesOf l = l.takeWhile (· != 10) :: linesOf ((l.dropWhile (· != 10)).drop 1) := by
  have h2 := tail_lt h
  unfold linesOf
  rw [show l.length = (l.length - 1) + 1 by omega]
  conv => lhs; unfold lns
  rw [if_neg h, lns_fuel (l.length - 1) _ _ (by omega) (Nat.le_refl _)]
theorem take_line {a : List UInt8} (h : (10 : UInt8) ∉ a) (r : List UInt8) : (a ++ 10 :: r).takeWhile (· != 10) = a := by
  induction a with
  | nil => simp
  | cons x a ih =>
    have hx : x ≠ 10 := fun e => h (by simp [e])
    simp [hx]
    have := ih (fun e => h (by simp [e]))
    simpa using this
theorem drop_line {a : List UInt8} (h : (10 : UInt8) ∉ a) (r : List UInt8) : ((a ++ 10 :: r).dropWhile (· != 10)).drop 1 = r := by
  induction a with
  | nil => simp
  | cons x a ih =>
    have hx : x ≠ 10 := fun e => h (by simp [e])
    simp [hx]
    have := ih (fun e => h (by simp [e]))
    simpa using this
theorem joinL_cons (x : List UInt8) (xs : List (List UInt8)) : joinL (x :: xs) = x ++ 10 :: joinL xs := by simp [joinL]
theorem lines_join : ∀ (xs : List (List UInt8)), (∀ x, x ∈ xs → (10 : UInt8) ∉ x) → linesOf (joinL xs) = xs
  | [], _ => rfl
  | x :: xs, h => by
    rw [joinL_cons, linesOf_cons (by simp), take_line (h x (by simp)), drop_line (h x (by simp)), lines_join xs (fun y hy => h y (by simp [hy]))]
theorem take_no (l : List UInt8) : (10 : UInt8) ∉ l.takeWhile (· != 10) := by
  induction l with
  | nil => simp
  | cons x l ih =>
    by_cases hx : x = 10
    · subst hx; simp
    · simp only [List.takeWhile_cons, bne_iff_ne, ne_eq, hx, not_false_eq_true, if_true, List.mem_cons, not_or]
      exact ⟨fun e => hx e.symm, ih⟩
theorem ends_split : ∀ (l : List UInt8), l ≠ [] → l.getLast? = some 10 → l = l.takeWhile (· != 10) ++ 10 :: (l.dropWhile (· != 10)).drop 1 ∧ ((l.dropWhile (· != 10)).drop 1 = [] ∨ ((l.dropWhile (· != 10)).drop 1).getLast? = some 10)
  | [], h, _ => absurd rfl h
  | x :: l, _, hl => by
    by_cases hx : x = 10
    · subst hx
      simp only [List.takeWhile_cons, List.dropWhile_cons, bne_self_eq_false, Bool.false_eq_true, if_false, List.nil_append, List.drop_succ_cons, List.drop_zero, true_and]
      cases l with
      | nil => exact .inl rfl
      | cons y l => exact .inr (by rw [List.getLast?_cons_cons] at hl; exact hl)
    · have hne : l ≠ [] := by
        rintro rfl
        simp at hl
        exact hx hl
      have hl' : l.getLast? = some 10 := by
        cases l with
        | nil => exact absurd rfl hne
        | cons y l => rw [List.getLast?_cons_cons] at hl; exact hl
      obtain ⟨h1, h2⟩ := ends_split l hne hl'
      have e1 : (x :: l).takeWhile (· != 10) = x :: l.takeWhile (· != 10) := by simp [hx]
      have e2 : (x :: l).dropWhile (· != 10) = l.dropWhile (· != 10) := by simp [hx]
      rw [e1, e2]
      exact ⟨by rw [List.cons_append, ← h1], h2⟩
theorem join_lines (l : List UInt8) (h : l = [] ∨ l.getLast? = some 10) : joinL (linesOf l) = l := by
  induction hn : l.length using Nat.strongRecOn generalizing l with
  | _ n ih =>
    by_cases h0 : l = []
    · subst h0; rfl
    · obtain ⟨h1, h2⟩ := ends_split l h0 (h.resolve_left h0)
      rw [linesOf_cons h0, joinL_cons, ih _ (by rw [← hn]; exact tail_lt h0) _ h2 rfl, ← h1]
theorem lines_no (l : List UInt8) : ∀ x, x ∈ linesOf l → (10 : UInt8) ∉ x := by
  induction hn : l.length using Nat.strongRecOn generalizing l with
  | _ n ih =>
    by_cases h0 : l = []
    · subst h0; intro x hx; cases hx
    · rw [linesOf_cons h0]
      intro x hx
      rcases List.mem_cons.1 hx with rfl | hx
      · exact take_no l
      · exact ih _ (by rw [← hn]; exact tail_lt h0) _ rfl x hx
theorem lines_len (l : List UInt8) : (linesOf l).length ≤ l.length := by
  induction hn : l.length using Nat.strongRecOn generalizing l with
  | _ n ih =>
    by_cases h0 : l = []
    · subst h0; simp [linesOf, lns]
    · have h1 := tail_lt h0
      have h2 := ih _ (by rw [← hn]; exact h1) _ rfl
      rw [linesOf_cons h0, List.length_cons]
      omega
/-- the answer's number -/
def lnE (l : List UInt8) : Int := if 1048576 < l.length then 2 else if l = [] ∨ l.getLast? = some 10 then 0 else 64
/-- with their numbers -/
def ixs : Nat → List (List UInt8) → List (Nat × List UInt8)
  | _, [] => []
  | k, x :: xs => (k, x) :: ixs (k + 1) xs
theorem ixs_map : ∀ (k : Nat) (xs : List (List UInt8)), (ixs k xs).map (·.2) = xs
  | _, [] => rfl
  | k, x :: xs => by simp [ixs, ixs_map (k + 1) xs]
theorem ixs_len (k : Nat) (xs : List (List UInt8)) : (ixs k xs).length = xs.length := by
  have := congrArg List.length (ixs_map k xs)
  simpa using this
/-- cutting at a line's end -/
theorem cut_ten (l : List UInt8) : (Go.Lib.cut l [10]).1 = l.takeWhile (· != 10) ∧ (Go.Lib.cut l [10]).2.1 = (l.dropWhile (· != 10)).drop 1 := by
  have hi : Go.Lib.index l [10] = Go.Lib.indexByte l 10 := Go.Lib.index_one l 10
  unfold Go.Lib.cut
  rw [hi]
  have hge := Go.Lib.indexByte_ge l 10
  by_cases h : 0 ≤ Go.Lib.indexByte l 10
  · rw [if_pos h]
    obtain ⟨o, ho⟩ := Int.eq_ofNat_of_zero_le h
    obtain ⟨h1, h2⟩ := Go.Lib.indexByte_some ho
    obtain ⟨hol, h1'⟩ := List.getElem?_eq_some_iff.1 h1
    have hd : l = l.take o ++ 10 :: l.drop (o + 1) := by
      conv => lhs; rw [← List.take_append_drop o l, List.drop_eq_getElem_cons hol, h1']
    have hno : (10 : UInt8) ∉ l.take o := by
      intro hm
      obtain ⟨k, hk, e⟩ := List.getElem_of_mem hm
      have hk' : k < o := by rw [List.length_take] at hk; omega
      refine h2 k hk' ?_
      rw [List.getElem?_eq_getElem (by omega), ← e, List.getElem_take]
    rw [ho]
    simp only [Int.toNat_natCast, List.length_cons, List.length_nil]
    constructor
    · conv => rhs; rw [hd]
      rw [take_line hno]
    · conv => rhs; rw [hd]
      rw [drop_line hno]
  · rw [if_neg h]
    have h3 := Go.Lib.indexByte_none (l := l) (c := 10) (by omega)
    have hno : (10 : UInt8) ∉ l := by
      intro hm
      obtain ⟨k, hk, e⟩ := List.getElem_of_mem hm
      exact h3 k (by rw [List.getElem?_eq_getElem hk, e])
    have e1 : l.takeWhile (· != 10) = l := by
      clear h3 hi hge h
      induction l with
      | nil => rfl
      | cons x l ih =>
        have hx : x ≠ 10 := fun e => hno (by simp [e])
        simp only [List.takeWhile_cons, bne_iff_ne, ne_eq, hx, not_false_eq_true, if_true]
        rw [ih (fun e => hno (by simp [e]))]
    have e2 : l.dropWhile (· != 10) = [] := by
      have := List.takeWhile_append_dropWhile (p := (· != (10 : UInt8))) (l := l)
      rw [e1] at this
      simpa using this
    simp only [e1, e2]
    exact ⟨trivial, rfl⟩
end Go.Proofs.YtaphjbcnnkoffaaGreatDoor
