import Derived.Test.YtaphjbcnnkoffaaGreatDoorMt
import Derived.Laws.Cover1
namespace Go.Proofs.YtaphjbcnnkoffaaGreatDoor
open Go.RowKit Go.Shelf TextNum ModNum
theorem ba_app (a b : ByteArray) : a ++ b = ⟨(a.data.toList ++ b.data.toList).toArray⟩ := by
  apply ByteArray.ext
  simp [ByteArray.data_append]
theorem ba_data (l : List UInt8) : (⟨l.toArray⟩ : ByteArray).data.toList = l := rfl
theorem maj_len {p m : List UInt8} (h : maj p = some m) : p.length ≤ 255 ∧ al 127 p = true := by
  unfold maj at h
  split at h
  · cases h
  · rename_i hh
    refine ⟨by have := fun h => hh (.inl h); omega, ?_⟩
    cases ha : al 127 p with
    | true => rfl
    | false => exact absurd (.inr ha) hh
theorem ver_len {l : List UInt8} {q : Prt} (h : ver l = some q) : l.length ≤ 128 ∧ l.head? = some 118 := by
  unfold ver at h
  split at h
  · cases h
  · rename_i hh
    refine ⟨by have := fun h => hh (.inr h); omega, ?_⟩
    by_cases h2 : l.head? = some 118
    · exact h2
    · exact absurd (.inl h2) hh
theorem fte_ok {p l : List UInt8} (h : fte p l = 0) : ∃ m q, maj p = some m ∧ ver l = some q ∧ fit q m = true := by
  unfold fte at h
  cases hm : maj p with
  | none => rw [hm] at h; cases h
  | some m =>
    rw [hm] at h
    cases hv : ver l with
    | none => rw [hv] at h; cases h
    | some q =>
      rw [hv] at h
      refine ⟨m, q, rfl, rfl, ?_⟩
      cases hf : fit q m with
      | true => rfl
      | false =>
        have h2 : (if fit q m = true then (0 : Int) else 111) = 0 := h
        rw [hf] at h2
        cases h2
theorem fte_no {p l : List UInt8} (h : fte p l ≠ 0) : fte p l = 110 ∨ fte p l = 111 := by
  unfold fte at h ⊢
  cases hm : maj p with
  | none => exact .inl rfl
  | some m =>
    cases hv : ver l with
    | none => exact .inr rfl
    | some q =>
      simp only [hm, hv] at h ⊢
      split
      · rename_i hf; rw [if_pos hf] at h; exact absurd rfl h
      · exact .inr rfl
theorem cmpB_val : ∀ (a b : List UInt8), cmpB a b = -1 ∨ cmpB a b = 0 ∨ cmpB a b = 1
  | [], [] => .inr (.inl rfl)
  | [], _ :: _ => .inl rfl
  | _ :: _, [] => .inr (.inr rfl)
  | a :: l, b :: m => by
    unfold cmpB
    split
    · exact .inl rfl
    · split
      · exact .inr (.inr rfl)
      · exact cmpB_val l m
theorem cmpB_eq : ∀ {a b : List UInt8}, cmpB a b = 0 ↔ a = b
  | [], [] => by simp [cmpB]
  | [], _ :: _ => by simp [cmpB]
  | _ :: _, [] => by simp [cmpB]
  | a :: l, b :: m => by
    unfold cmpB
    split
    · rename_i h
      constructor
      · intro h2; cases h2
      · intro h2; injection h2 with h3; subst h3; omega
    · split
      · rename_i h
        constructor
        · intro h2; cases h2
        · intro h2; injection h2 with h3; subst h3; omega
      · rw [cmpB_eq]
        constructor
        · rintro rfl
          have : a = b := UInt8.toNat_inj.1 (by omega)
          rw [this]
        · intro h2; injection h2
theorem less_cmp : ∀ (a b : List UInt8), Op.bytesLess a b = decide (cmpB a b = -1)
  | [], [] => rfl
  | [], _ :: _ => rfl
  | _ :: _, [] => rfl
  | a :: l, b :: m => by
    unfold Op.bytesLess cmpB
    rw [less_cmp l m]
    by_cases h1 : a.toNat < b.toNat
    · have : a < b := UInt8.lt_iff_toNat_lt.2 h1
      simp [h1, this]
    · have hn : ¬ a < b := fun h => h1 (UInt8.lt_iff_toNat_lt.1 h)
      rw [if_neg h1]
      by_cases h2 : b.toNat < a.toNat
      · have hne : ¬ a = b := by rintro rfl; omega
        rw [if_pos h2]
        simp [hn, hne]
      · have he : a = b := UInt8.toNat_inj.1 (by omega)
        subst he
        rw [if_neg h2]
        simp
/-- a key's text -/
def keyT (p s : List UInt8) : List UInt8 := if fte p s = 0 then p ++ 64 :: s else []
end Go.Proofs.YtaphjbcnnkoffaaGreatDoor
