import Derived.Test.YtfnbodpbdfeiiaaDoorNm
namespace Go.Proofs.YtfnbodpbdfeiiaaDoor
open Go.RowKit Go.Shelf FieldNum

section
variable {ops : Array Oper} {Q : Exit → Act → World → Prop} {md : Region.Mode} {S : World → Prop} {fuel : Nat} {listed : Array Bool} {a : Act} {w : World}

/-- a load of 32 bytes is taken first -/
theorem take32 (i : Nat) (n b : Nat) {oi : Oper} (hi : ops.toList[i]? = some oi) (hs : Region.noSelect ops = true) (hf : Region.free md ops listed i = true) (hr : (Region.ready md ops listed).contains i = true)
    (hQ : ∀ c a w, Q (.panic c) (a.put oi.dst (bv n)) w → Q (.panic c) a w) (hw : Region.wanted oi (yielded ops a.tmps) = true) {x : Operand} (ho : oi.op = .load 22 x)
    (hx : a.eval x = .pointer (some ⟨b, 0, none⟩)) (hS : ∀ w, S w → w.rangeAt b 0 (bl n)) (hSw : S w)
    (h : wpAnyH Tryd.prog md ops Q S fuel (listed.setIfInBounds i true) (a.put oi.dst (bv n)) w) : wpAnyH Tryd.prog md ops Q S (fuel + 1) listed a w :=
  wpAnyH_take (i := i) (oi := oi) (v := bv n) (by rw [← Array.getElem?_toList]; exact hi) hs hf hr hQ
    (yieldsIf_load_mid hw 22 x ho b 0 hx (bl n) _ hS Tryd.underlying22 rfl (by rw [bl_length]; exact info32)) hSw h

/-- one operation alone may come up -/
theorem step1 (i : Nat) {o : Oper} (hr : Region.ready md ops listed = [i]) (hi : ops.toList[i]? = some o)
    (h : ∀ K' : Act → World → Prop, Shut (∀ a w, S w → (S w → wpAnyH Tryd.prog md ops Q S fuel (listed.setIfInBounds i true) a w) → K' a w) → if Region.wanted o (yielded ops a.tmps) = true then Oper.wp Tryd.prog o a w K' Q else K' (a.put o.dst undef) w) :
    wpAnyH Tryd.prog md ops Q S (fuel + 1) listed a w :=
  wpAnyH_ready hr (by simp) (AllReadyH.cons (by rw [← Array.getElem?_toList]; exact hi) h AllReadyH.nil)

/-- a store of 32 bytes -/
theorem store32 {o : Oper} {K : Act → World → Prop} (n b : Nat) {x y : Operand} (ho : o.op = .store 22 x y) (hw : Region.wanted o (yielded ops a.tmps) = true)
    (hx : a.eval x = .pointer (some ⟨b, 0, none⟩)) (hy : a.eval y = bv n) (ht : w.there b 0 32) (h : K (a.put o.dst undef) (w.setCells b 0 (bl n))) :
    if Region.wanted o (yielded ops a.tmps) = true then Oper.wp Tryd.prog o a w K Q else K (a.put o.dst undef) w := by
  rw [if_pos hw]
  exact wp_store_mid 22 x y ho b 0 (bl n).toArray hx hy (by rw [List.size_toArray, bl_length]; exact ht) (by rw [List.size_toArray, bl_length]; exact info32) (all_oneCell_toArray (bl_one n)) h
end

theorem keep3 {W w1 w2 : World} {b1 b2 b3 : Nat} {xs ys : List Value} (h : w1.rangeAt b1 0 xs ∧ w1.rangeAt b2 0 ys ∧ w1.there b3 0 32 ∧ Grown W w1) (hg : Grown w1 w2) :
    w2.rangeAt b1 0 xs ∧ w2.rangeAt b2 0 ys ∧ w2.there b3 0 32 ∧ Grown W w2 :=
  ⟨rangeAt_grown h.1 hg, rangeAt_grown h.2.1 hg, there_grown h.2.2.1 hg, grown_trans h.2.2.2 hg⟩

theorem rangeAt_alloc_new (w : World) (t : TypeId) (cs : List Value) : (w.alloc (.cells cs.toArray t)).rangeAt w.heap.size 0 cs := by
  intro j v hv
  have e : (w.alloc (.cells cs.toArray t)).heap[w.heap.size]? = some (.cells cs.toArray t) := heap_alloc_new w _
  rw [cell_of_row _ _ _ _ _ _ e, Nat.zero_add]
  simpa using hv

theorem start3 (w : World) (xs ys : List Value) (c : Array Value) (hc : 32 ≤ c.size) :
    (((w.alloc (.cells xs.toArray 22)).alloc (.cells ys.toArray 22)).alloc (.cells c 22)).drew.rangeAt w.heap.size 0 xs ∧
    (((w.alloc (.cells xs.toArray 22)).alloc (.cells ys.toArray 22)).alloc (.cells c 22)).drew.rangeAt (w.heap.size + 1) 0 ys ∧
    (((w.alloc (.cells xs.toArray 22)).alloc (.cells ys.toArray 22)).alloc (.cells c 22)).drew.there (w.heap.size + 1 + 1) 0 32 ∧
    Grown w (((w.alloc (.cells xs.toArray 22)).alloc (.cells ys.toArray 22)).alloc (.cells c 22)).drew := by
  have g1 : ∀ (w : World) (a : Array Value), Grown w (w.alloc (.cells a 22)) := fun w a => Grown.alloc (Grown.refl _) _ _
  have s1 : (w.alloc (.cells xs.toArray 22)).heap.size = w.heap.size + 1 := by simp
  have s2 : ((w.alloc (.cells xs.toArray 22)).alloc (.cells ys.toArray 22)).heap.size = w.heap.size + 1 + 1 := by simp
  have r1 := rangeAt_grown (rangeAt_grown (rangeAt_alloc_new w 22 xs) (g1 _ ys.toArray)) (g1 _ c)
  have r2 := rangeAt_grown (rangeAt_alloc_new (w.alloc (.cells xs.toArray 22)) 22 ys) (g1 _ c)
  have r3 := there_alloc_new ((w.alloc (.cells xs.toArray 22)).alloc (.cells ys.toArray 22)) 22 c 32 hc
  rw [s1] at r2
  rw [s2] at r3
  exact ⟨r1, r2, r3, by go_grown⟩
end Go.Proofs.YtfnbodpbdfeiiaaDoor
