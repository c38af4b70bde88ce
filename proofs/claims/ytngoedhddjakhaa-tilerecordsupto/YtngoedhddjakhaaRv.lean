import Derived.Test.YtngoedhddjakhaaRz
namespace Go.Proofs.Ytngoedhddjakhaa
open Go.RowKit Go.Shelf TextNum TileNum
/-- the blocks between two numbers stay -/
def Md (N S : Nat) (w w' : World) : Prop := w.heap.size ≤ w'.heap.size ∧ ∀ k, N ≤ k → k < S → w'.heap[k]? = w.heap[k]?
theorem Md.refl (N S : Nat) (w : World) : Md N S w w := ⟨Nat.le_refl _, fun _ _ _ => rfl⟩
theorem Md.by {N S : Nat} {w w1 w2 : World} {row : Option Nat} (h : Md N S w w1) (hS : S ≤ w.heap.size) (hg : w1.grownBy w2 row) (hr : ∀ g, row = some g → g < N ∨ S ≤ g) : Md N S w w2 :=
  ⟨Nat.le_trans h.1 hg.size, fun k h1 h2 => (hg.block k (by have := h.1; omega) (fun e => by have := hr k e.symm; omega)).trans (h.2 k h1 h2)⟩
theorem Md.up {N S : Nat} {w w1 w2 : World} (h : Md N S w w1) (hS : S ≤ w.heap.size) (u : Up w1 w2) : Md N S w w2 :=
  ⟨Nat.le_trans h.1 u.size, fun k h1 h2 => (u.block k (by have := h.1; omega)).trans (h.2 k h1 h2)⟩
theorem ownsRow_md {w w' : World} {N S : Nat} {e : TypeId} {size : Nat} {v : Value} {n : Nat} {xs : List Value} (h : w.ownsRow N e size v n xs) (m : Md N S w w') (hS : w.heap.size = S) : w'.ownsRow N e size v n xs := by
  refine ⟨h.1, ?_⟩
  rcases h.2 with h | ⟨g, cap, cur, e, hb, hg, r⟩
  · exact .inl h
  · refine .inr ⟨g, cap, cur, e, hb, ?_, r⟩
    rw [m.2 g hb (by have := lt_of_at hg; omega)]; exact hg
theorem LT.md {w w' : World} {N S : Nat} {v : Value} {ls : List (List UInt8)} (h : LT w N v ls) (m : Md N S w w') (hS : w.heap.size = S) : LT w' N v ls := by
  obtain ⟨xs, h1, h2, h3, h4⟩ := h
  exact ⟨xs, ownsRow_md h1 m hS, h2, fun j r hr => by obtain ⟨u, e, o⟩ := h3 j r hr; exact ⟨u, e, ownsRow_md o m hS⟩, h4⟩
theorem XW.len {w : World} {B : Nat} {v : Value} {xs : List Value} {ns : List Nat} {i : Nat} (h : XW w B v xs ns i) : ∃ a c, v = .slice a ns.length c := by
  obtain ⟨a, c, e, _⟩ := h.1.cell
  exact ⟨a, c, by rw [e, h.2.1]⟩
/-- what the loop that marks keeps -/
structure MJ (w7 wC : World) (B N S : Nat) (v r m : Value) (xs : List Value) (ls : List (List UInt8)) (bs : List (Nat × Value)) (i : Nat) (w : World) : Prop where
  len : bs.length = i
  row : XW w B v xs (ls.map List.length) i
  mks : MK w S m xs (ls.map List.length) bs
  up : Up w7 w
  md : Md N S wC w
/-- what the loop that lets go keeps -/
structure NJ (w7 wC : World) (B N S : Nat) (v r m : Value) (xs : List Value) (ls : List (List UInt8)) (bs : List (Nat × Value)) (i : Nat) (w : World) : Prop where
  row : ∃ ys, OwnT w B v ys ∧ ys.length = ls.length ∧ ∀ t, t < i → ys[t]? = some (.slice none 0 0)
  mks : MK w S m xs (ls.map List.length) bs
  up : Up w7 w
  md : Md N S wC w
end Go.Proofs.Ytngoedhddjakhaa
