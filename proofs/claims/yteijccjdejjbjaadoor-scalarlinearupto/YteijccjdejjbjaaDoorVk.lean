import Derived.Test.YteijccjdejjbjaaDoorRe
import Derived.Test.YteijccjdejjbjaaDoorNe
import Derived.RangeFuncNested
import Derived.RangeFuncBound
import Derived.RangeFuncCalls
import Derived.RangeFuncLeaves
import Derived.RangeFuncWrites
import Derived.OwnWalkIn
import Derived.TacticsInMore
import Derived.LoopNIn
import Derived.LoopIn
namespace Go.Proofs.YteijccjdejjbjaaDoor
open Go.RowKit Go.Shelf ScalarNum

/-- what lay stays as it lay -/
def Lain (W w' : World) : Prop := w'.os = W.os ∧ w'.output = W.output ∧ W.heap.size ≤ w'.heap.size ∧ ∀ k, k < W.heap.size → w'.heap[k]? = W.heap[k]?

theorem Lain.refl (W : World) : Lain W W := ⟨rfl, rfl, Nat.le_refl _, fun _ _ => rfl⟩
theorem Lain.trans {a b c : World} (h : Lain a b) (k : Lain b c) : Lain a c :=
  ⟨k.1.trans h.1, k.2.1.trans h.2.1, Nat.le_trans h.2.2.1 k.2.2.1, fun i hi => (k.2.2.2 i (Nat.lt_of_lt_of_le hi h.2.2.1)).trans (h.2.2.2 i hi)⟩
theorem Lain.of {W w' : World} (h : Grown W w') : Lain W w' := ⟨h.1.1, h.1.2.1, h.2.2, fun _ hk => grown_block h hk⟩
theorem Lain.cell {W w' : World} (h : Lain W w') {n : Nat} (i : Nat) (hn : n < W.heap.size) : w'.cell? ⟨n, i, none⟩ = W.cell? ⟨n, i, none⟩ := World.cell?_of_block (w := W) (h.2.2.2 n hn)
theorem Lain.range {w w' : World} {b o : Nat} {cs : List Value} (hg : Lain w w') (h : w.rangeAt b o cs) : w'.rangeAt b o cs := by
  intro j v hv
  have h1 := h j v hv
  rw [hg.cell _ (block_lt_of_cell h1)]; exact h1
theorem Lain.there {w w' : World} {b o n : Nat} (hg : Lain w w') (h : w.there b o n) : w'.there b o n := by
  intro j hj
  obtain ⟨h1, h2⟩ := h j hj
  obtain ⟨v, hv⟩ := Option.isSome_iff_exists.1 h1
  have hb : b < w.heap.size := block_lt_of_cell hv
  exact ⟨by rw [hg.cell _ hb]; exact h1, by rw [World.frozen?_of_block (w := w) (hg.2.2.2 b hb)]; exact h2⟩
theorem Lain.frame {W w' : World} (h : Lain W w') (may : MemPlace → Prop) : W.keptBut w' may := by
  refine ⟨h.1, h.2.1, fun i hi => ?_⟩
  rw [h.2.2.2 i hi]
  split <;> simp_all
theorem Lain.frozen {W w' : World} (h : Lain W w') {a : Addr} (ha : a.block < W.heap.size) : w'.frozen? a = W.frozen? a := World.frozen?_of_block (w := W) (h.2.2.2 _ ha)
theorem Lain.drew {W w' : World} (h : Lain W w') : Lain W w'.drew := h
theorem Lain.put {W w' : World} (h : Lain W w') {l : Nat} (hl : W.heap.size ≤ l) (o : Obj) : Lain W (w'.putObj l o) := by
  have hg := grownBy_putObj' w' l o
  refine ⟨hg.os.trans h.1, hg.output.trans h.2.1, Nat.le_trans h.2.2.1 hg.size, fun k hk => ?_⟩
  rw [hg.block k (by have := h.2.2.1; omega) (fun e => by cases e; omega)]
  exact h.2.2.2 k hk
theorem Lain.set {W w' : World} (h : Lain W w') {b o : Nat} (hb : W.heap.size ≤ b) (vs : List Value) : Lain W (w'.setCells b o vs) := by
  have hg := grown_setCells (W := W) hb vs o (w' := w')
  induction vs generalizing w' o with
  | nil => exact h
  | cons v r ih =>
    refine ih (o := o + 1) ?_ (grown_setCells (W := W) hb r (o + 1))
    refine ⟨h.1, h.2.1, by simpa [World.setCell] using h.2.2.1, fun k hk => ?_⟩
    rw [Below.heap_setCell _ _ _ _ (by show k ≠ b; omega)]
    exact h.2.2.2 k hk
/-- cells below n stay, but those of block x -/
def CellsLow (n x : Nat) (W W' : World) : Prop := ∀ p : Addr, p.block < n → p.block ≠ x → W'.cell? p = W.cell? p

theorem cellsLow_t {n x : Nat} {A B C : World} (h : CellsLow n x A B) (k : CellsLow n x B C) : CellsLow n x A C := fun p hp hx => (k p hp hx).trans (h p hp hx)
theorem cellsLow_b {n x : Nat} {w : World} (hn : n ≤ w.heap.size) (W : World) (l : Nat) (o o' : Obj) (hl : w.heap.size ≤ l) (h : W.heap[l]? = some o) (_ : o.isCells = false) (_ : o.isWalk = false) : CellsLow n x W (W.putObj l o') := by
  intro p hp _
  have hg := grownBy_putObj' W l o'
  have := (Array.getElem?_eq_some_iff.1 h).1
  exact World.cell?_of_block (w := W) (hg.block p.block (by omega) (fun e => by cases e; omega))
theorem GB.low {b n : Nat} {W W' : World} (h : GB b W W') (hn : n ≤ W.heap.size) : CellsLow n b W W' := fun p hp hx => World.cell?_of_block (w := W) (h.block (by omega) hx)
theorem GB.keeps {b B : Nat} {W W' : World} (h : GB b W W') (hc : ∀ o, W.heap[b]? = some o → o.isCells = true) : KeepsFrom B W W' := by
  refine ⟨h.2.2, fun k o _ hk ho => ?_⟩
  have hlt := (Array.getElem?_eq_some_iff.1 hk).1
  by_cases e : k = b
  · subst e; rw [hc o hk] at ho; cases ho
  · rw [h.block hlt e]; exact hk
theorem GB.lain {b : Nat} {w W W' : World} (h : GB b W W') (hw : Lain w W) (hb : w.heap.size ≤ b) : Lain w W' :=
  ⟨h.1.1.trans hw.1, h.1.2.1.trans hw.2.1, Nat.le_trans hw.2.2.1 h.2.2, fun k hk => (h.block (by have := hw.2.2.1; omega) (by omega)).trans (hw.2.2.2 k hk)⟩
theorem lain_own {w : World} {n : Nat} (hn : w.heap.size ≤ n) {β : Type} : OwnFrom n (fun (_ : β) W => Lain w W) := by
  intro s W W' row hs hg hr
  refine ⟨hg.os.trans hs.1, hg.output.trans hs.2.1, Nat.le_trans hs.2.2.1 hg.size, fun k hk => ?_⟩
  rw [hg.block k (by have := hs.2.2.1; omega) (fun e => by have := (hr k e.symm).1; omega)]
  exact hs.2.2.2 k hk
theorem range_own {n : Nat} {β : Type} (b : Nat) (f : β → List Value) (m : Nat) : OwnFrom n (fun (s : β) W => W.rangeAt b 0 (f s) ∧ W.there b 0 m) := by
  intro s W W' row hs hg hr
  refine ⟨fun j v hv => cell_kept (hs.1 j v hv) hg (fun r e => (hr r e).2), fun j hj => ?_⟩
  obtain ⟨h1, h2⟩ := hs.2 j hj
  obtain ⟨v, hv⟩ := Option.isSome_iff_exists.1 h1
  exact ⟨by rw [cell_kept hv hg (fun r e => (hr r e).2)]; rfl, (frozen_kept hv hg (fun r e => (hr r e).2)).trans h2⟩
end Go.Proofs.YteijccjdejjbjaaDoor
