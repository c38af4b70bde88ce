import Derived.Test.YtpjfmkmgfjhnmaaTw
namespace Go.Proofs.Ytpjfmkmgfjhnmaa
open Go.RowKit
theorem alloc_new (w : World) (o : Obj) : (w.alloc o).heap[w.heap.size]? = some o := by
  show (w.heap.push o)[w.heap.size]? = _
  simp
theorem alloc_old {w : World} {o p : Obj} {g : Nat} (h : w.heap[g]? = some p) : (w.alloc o).heap[g]? = some p := by
  show (w.heap.push o)[g]? = _
  rw [Array.getElem?_push]
  have : g < w.heap.size := by
    rcases Nat.lt_or_ge g w.heap.size with h1 | h1
    · exact h1
    · rw [Array.getElem?_eq_none h1] at h; cases h
  rw [if_neg (by omega)]
  exact h
theorem alloc_size (w : World) (o : Obj) : (w.alloc o).heap.size = w.heap.size + 1 := by
  show (w.heap.push o).size = _
  simp
theorem three_new (w : World) (o1 o2 o3 : Obj) : (((w.alloc o1).alloc o2).alloc o3).heap[w.heap.size]? = some o1 ∧ (((w.alloc o1).alloc o2).alloc o3).heap[w.heap.size + 1]? = some o2 ∧ (((w.alloc o1).alloc o2).alloc o3).heap[w.heap.size + 1 + 1]? = some o3 := by
  refine ⟨alloc_old (alloc_old (alloc_new _ _)), alloc_old ?_, ?_⟩
  · have := alloc_new (w.alloc o1) o2
    rwa [alloc_size] at this
  · have := alloc_new ((w.alloc o1).alloc o2) o3
    rwa [alloc_size, alloc_size] at this
theorem cell_at {w : World} {g i : Nat} {cs : Array Value} {t : TypeId} {v : Value} (h : w.heap[g]? = some (.cells cs t)) (hv : cs[i]? = some v) : w.cell? ⟨g, i, none⟩ = some v := by
  simp only [World.cell?, h]
  simpa using hv
theorem Up.at {w w' : World} {g : Nat} {o : Obj} (h : Up w w') (k : w.heap[g]? = some o) : w'.heap[g]? = some o := by
  have : g < w.heap.size := by
    rcases Nat.lt_or_ge g w.heap.size with h1 | h1
    · exact h1
    · rw [Array.getElem?_eq_none h1] at k; cases k
  rw [h.block g this]; exact k
theorem thaw_at {w : World} {g i : Nat} {cs : Array Value} {t : TypeId} (h : w.heap[g]? = some (.cells cs t)) : w.frozen? ⟨g, i, none⟩ = false := by
  simp [World.frozen?, h]
theorem range_at {w : World} {g : Nat} {x y : Value} {t : TypeId} (h : w.heap[g]? = some (.cells #[x, y] t)) : w.rangeAt g 0 [x, y] := by
  intro j v hv
  match j with
  | 0 => simp only [List.getElem?_cons_zero, Option.some.injEq] at hv; subst hv; exact cell_at h rfl
  | 1 => simp only [List.getElem?_cons_succ, List.getElem?_cons_zero, Option.some.injEq] at hv; subst hv; exact cell_at h rfl
  | j + 2 => simp at hv
theorem results_agg1 {P : Program} {fn : Func} {q : Tmp} {T : TypeId} (h : fn.results = #[.cell q T]) (tmps : Array Value) (w : World) (b : Nat) (cs : List Value) {d : TypeDesc}
    (hp : tmps.getD q undef = .pointer (some ⟨b, 0, none⟩)) (hc : w.rangeAt b 0 cs) (hu : P.underlying T = some d) (hd : d.isRow = true) (hi : (P.info? T).map (·.size) = some cs.length) : (results fn tmps).run P w = .ok (.agg cs.toArray) w := by
  have hp' : tmps[q]?.getD undef = .pointer (some ⟨b, 0, none⟩) := by simpa using hp
  simp [results, h, hp', asAddr, run_loadVar_mid w b 0 T cs _ hc hu hd hi]
theorem results_agg2 {P : Program} {fn : Func} {q q2 : Tmp} {T : TypeId} (h : fn.results = #[.cell q T, .cell q2 T]) (tmps : Array Value) (w : World) (b b2 : Nat) (cs cs2 : List Value) {d : TypeDesc}
    (hp : tmps.getD q undef = .pointer (some ⟨b, 0, none⟩)) (hp2 : tmps.getD q2 undef = .pointer (some ⟨b2, 0, none⟩)) (hc : w.rangeAt b 0 cs) (hc2 : w.rangeAt b2 0 cs2) (hu : P.underlying T = some d) (hd : d.isRow = true) (hi : (P.info? T).map (·.size) = some cs.length) (hi2 : (P.info? T).map (·.size) = some cs2.length) : (results fn tmps).run P w = .ok (.tuple #[.agg cs.toArray, .agg cs2.toArray]) w := by
  have hp' : tmps[q]?.getD undef = .pointer (some ⟨b, 0, none⟩) := by simpa using hp
  have hp2' : tmps[q2]?.getD undef = .pointer (some ⟨b2, 0, none⟩) := by simpa using hp2
  simp [results, h, hp', hp2', asAddr, run_loadVar_mid w b 0 T cs _ hc hu hd hi, run_loadVar_mid w b2 0 T cs2 _ hc2 hu hd hi2]
/-- two cells of a block written -/
def put2 (V : World) (g : Nat) (x y : Value) : World := (V.setCell ⟨g, 0, none⟩ x).setCell ⟨g, 1, none⟩ y
theorem put2_at {V : World} {g : Nat} {p q x y : Value} {t : TypeId} (h : V.heap[g]? = some (.cells #[p, q] t)) : (put2 V g x y).heap[g]? = some (.cells #[x, y] t) := by
  have h1 := heap_setCell_same V g 0 _ t x h
  have h2 := heap_setCell_same (V.setCell ⟨g, 0, none⟩ x) g 1 _ t y h1
  exact h2
theorem put2_other {V : World} {g k : Nat} {x y : Value} (h : k ≠ g) : (put2 V g x y).heap[k]? = V.heap[k]? := by
  unfold put2
  rw [heap_setCell_other _ _ _ _ h, heap_setCell_other _ _ _ _ h]
theorem Up.put2 {w V : World} {g : Nat} (h : Up w V) (hg : w.heap.size ≤ g) (x y : Value) : Up w (put2 V g x y) := Below.setCell (Below.setCell h hg _) hg _
theorem Up.le {w w' : World} (h : Up w w') : w.heap.size ≤ w'.heap.size := h.size
end Go.Proofs.Ytpjfmkmgfjhnmaa
