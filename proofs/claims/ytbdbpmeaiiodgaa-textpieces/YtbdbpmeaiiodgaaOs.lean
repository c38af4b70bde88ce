import Derived.Test.YtbdbpmeaiiodgaaTa
import Derived.ChangeSlices
import Derived.Laws.OwnMore
namespace Go.Proofs.Ytbdbpmeaiiodgaa
open Go.RowKit TextNum
theorem sl_take {w : World} {a : Option Addr} {n c k : Nat} {l : List UInt8} (h : Sl w (.slice a n c) l) (hk : k ≤ l.length) : Sl w (.slice a k c) (l.take k) := by
  obtain ⟨a', c', e, hc, h⟩ := h
  cases e
  refine ⟨a, c, by rw [List.length_take, Nat.min_eq_left hk], by rw [List.length_take]; omega, ?_⟩
  rcases h with rfl | ⟨b, off, rfl, hb, hcell⟩
  · exact .inl (by simp)
  · exact .inr ⟨b, off, rfl, hb, fun i hi => by
      have hi' : i < l.length := by rw [List.length_take] at hi; omega
      rw [hcell i hi', List.getElem_take]⟩
theorem sliced_drop {w : World} {a : Option Addr} {n c k : Nat} {l : List UInt8} (h : Sl w (.slice a n c) l) (hk : k ≤ l.length) : Sl w (sliced a k n c 1) (l.drop k) := by
  obtain ⟨a', c', e, hc, h⟩ := h
  cases e
  unfold sliced
  refine ⟨_, _, by rw [List.length_drop], by rw [List.length_drop]; omega, ?_⟩
  rcases Nat.lt_or_ge k l.length with hlt | hge
  · rcases h with rfl | ⟨b, off, rfl, hb, hcell⟩
    · simp at hlt
    · refine .inr ⟨b, off + k, ?_, hb, fun i hi => ?_⟩
      · rw [if_neg (by omega), Option.map_some, Nat.mul_one, add_plain]
      · rw [List.length_drop] at hi
        rw [Nat.add_assoc, hcell (k + i) (by omega), List.getElem_drop]
  · exact .inl (List.drop_eq_nil_of_le hge)
end Go.Proofs.Ytbdbpmeaiiodgaa
