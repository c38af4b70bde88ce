import Derived.Test.YteijccjdejjbjaaDoorBits
import Derived.Deep.MidRow
import Derived.Deep.QuietTactic
import Derived.BigQuiet
import Derived.Deep.RegionHeld3
namespace Go.Proofs.YteijccjdejjbjaaDoor
open Go.RowKit Go.Shelf ScalarNum

theorem grown_block {W w' : World} (h : Grown W w') {n : Nat} (hn : n < W.heap.size) : w'.heap[n]? = W.heap[n]? := by
  have h3 := h.1.2.2 n hn
  cases e : W.heap[n]? with
  | none => rw [e] at h3; cases e' : w'.heap[n]? with
    | none => rfl
    | some o => rw [e'] at h3; exact h3
  | some o =>
    rw [e] at h3
    cases e' : w'.heap[n]? with
    | none => rw [e'] at h3; cases o <;> exact h3
    | some o' =>
      rw [e'] at h3
      cases o <;> cases o' <;> simp_all
      exact Array.ext_getElem? h3.2.2.2

theorem grown_cell {W w' : World} (h : Grown W w') (n i : Nat) (hn : n < W.heap.size) : w'.cell? ⟨n, i, none⟩ = W.cell? ⟨n, i, none⟩ := by
  have := grown_block h hn
  simp [World.cell?, this]

theorem grown_trans {a b c : World} (h1 : Grown a b) (h2 : Grown b c) : Grown a c :=
  ⟨World.keptBut_trans h1.1 h2.1, fun x => (h2.2.1 x).trans (h1.2.1 x), Nat.le_trans h1.2.2 h2.2.2⟩

theorem grown_drewN {W w' : World} (h : Grown W w') (n : Nat) : Grown W (w'.drewN n) := h

theorem there_grown {w w' : World} {b o n : Nat} (h : w.there b o n) (hg : Grown w w') : w'.there b o n := by
  intro j hj
  obtain ⟨h1, h2⟩ := h j hj
  obtain ⟨v, hv⟩ := Option.isSome_iff_exists.1 h1
  have hb : b < w.heap.size := block_lt_of_cell hv
  exact ⟨by rw [grown_cell hg _ _ hb]; exact h1, by rw [hg.2.1]; exact h2⟩

theorem rangeAt_grown {w w' : World} {b o : Nat} {cs : List Value} (h : w.rangeAt b o cs) (hg : Grown w w') : w'.rangeAt b o cs := by
  intro j v hv
  have h1 := h j v hv
  have hb : b < w.heap.size := block_lt_of_cell h1
  rw [grown_cell hg _ _ hb]; exact h1

/-- what has grown, and block b may have changed -/
def GB (b : Nat) (W w' : World) : Prop := W.keptBut w' (fun m => ∃ j, m = .cell b j) ∧ (∀ a, w'.frozen? a = W.frozen? a) ∧ W.heap.size ≤ w'.heap.size

theorem GB.refl (b : Nat) (w : World) : GB b w w := ⟨World.keptBut_refl _ _, fun _ => rfl, Nat.le_refl _⟩
theorem GB.trans {b : Nat} {w1 w2 w3 : World} (h1 : GB b w1 w2) (h2 : GB b w2 w3) : GB b w1 w3 :=
  ⟨World.keptBut_trans h1.1 h2.1, fun x => (h2.2.1 x).trans (h1.2.1 x), Nat.le_trans h1.2.2 h2.2.2⟩
theorem GB.of {b : Nat} {w1 w2 : World} (h : Grown w1 w2) : GB b w1 w2 := ⟨h.frame _, h.2.1, h.2.2⟩
theorem GB.drewN {b : Nat} {w1 w2 : World} (h : GB b w1 w2) (n : Nat) : GB b w1 (w2.drewN n) := h
theorem GB.setCell {b o : Nat} {w1 w2 : World} (h : GB b w1 w2) (v : Value) : GB b w1 (w2.setCell ⟨b, o, none⟩ v) := by
  refine GB.trans h ⟨?_, fun x => World.frozen?_setCell _ _ _ _, by simp [World.setCell]⟩
  have := World.keptBut_setCells b (may := fun m => ∃ j, m = .cell b j) [v] o w2 (fun j _ => ⟨_, rfl⟩)
  exact this
theorem GB.setCells {b o : Nat} (vs : List Value) {w1 w2 : World} (h : GB b w1 w2) : GB b w1 (w2.setCells b o vs) := by
  induction vs generalizing o w2 with
  | nil => exact h
  | cons v r ih => exact ih (o := o + 1) (GB.setCell h v)

theorem GB.block {b : Nat} {W w' : World} (h : GB b W w') {n : Nat} (hn : n < W.heap.size) (hb : n ≠ b) : w'.heap[n]? = W.heap[n]? := by
  have h3 := h.1.2.2 n hn
  cases e : W.heap[n]? with
  | none => rw [e] at h3; cases e' : w'.heap[n]? with
    | none => rfl
    | some o => rw [e'] at h3; exact h3
  | some o =>
    rw [e] at h3
    cases e' : w'.heap[n]? with
    | none => rw [e'] at h3; cases o <;> exact h3
    | some o' =>
      rw [e'] at h3
      cases o <;> cases o' <;> simp_all
      exact Array.ext_getElem? h3.2.2.2
theorem GB.cell {b : Nat} {W w' : World} (h : GB b W w') (n i : Nat) (hn : n < W.heap.size) (hb : n ≠ b) : w'.cell? ⟨n, i, none⟩ = W.cell? ⟨n, i, none⟩ := by
  have := h.block hn hb
  simp [World.cell?, this]
theorem GB.range {w w' : World} {b' b o : Nat} {cs : List Value} (hg : GB b' w w') (h : w.rangeAt b o cs) (hb : b ≠ b') : w'.rangeAt b o cs := by
  intro j v hv
  have h1 := h j v hv
  rw [hg.cell _ _ (block_lt_of_cell h1) hb]; exact h1
theorem GB.there {w w' : World} {b' b o n : Nat} (hg : GB b' w w') (h : w.there b o n) (hb : b ≠ b') : w'.there b o n := by
  intro j hj
  obtain ⟨h1, h2⟩ := h j hj
  obtain ⟨v, hv⟩ := Option.isSome_iff_exists.1 h1
  exact ⟨by rw [hg.cell _ _ (block_lt_of_cell hv) hb]; exact h1, by rw [hg.2.1]; exact h2⟩
/-- a block of one's own -/
theorem GB.own {b : Nat} {W0 W w' : World} (h0 : Grown W0 W) (hb : W0.heap.size ≤ b) (h : GB b W w') : Grown W0 w' := by
  refine ⟨⟨h.1.1.trans h0.1.1, h.1.2.1.trans h0.1.2.1, fun i hi => ?_⟩, fun a => (h.2.1 a).trans (h0.2.1 a), Nat.le_trans h0.2.2 h.2.2⟩
  rw [h.block (Nat.lt_of_lt_of_le hi h0.2.2) (by omega)]
  exact h0.1.2.2 i hi
theorem GB.mono {b : Nat} {w0 w1 w2 : World} (h0 : Grown w0 w1) (h : GB b w1 w2) : GB b w0 w2 := GB.trans (GB.of h0) h

theorem range_lt {w : World} {b o : Nat} {cs : List Value} (h : w.rangeAt b o cs) (hc : 0 < cs.length) : b < w.heap.size :=
  block_lt_of_cell (h 0 cs[0] (by simp))
theorem there_lt {w : World} {b o n : Nat} (h : w.there b o n) (hn : 0 < n) : b < w.heap.size := by
  obtain ⟨v, hv⟩ := Option.isSome_iff_exists.1 (h 0 hn).1
  exact block_lt_of_cell hv

theorem there_setCell {w : World} {b o n : Nat} (h : w.there b o n) (a : Addr) (v : Value) : (w.setCell a v).there b o n := by
  intro j hj
  obtain ⟨h1, h2⟩ := h j hj
  obtain ⟨u, hu⟩ := Option.isSome_iff_exists.1 h1
  obtain ⟨v', hv'⟩ := cell?_setCell_some (p := a) (x := v) hu
  exact ⟨by rw [hv']; rfl, (World.frozen?_setCell _ _ _ _).trans h2⟩
theorem there_alloc_new (w : World) (t : TypeId) (c : Array Value) (n : Nat) (hn : n ≤ c.size) : (w.alloc (.cells c t)).there w.heap.size 0 n := by
  intro j hj
  have e : (w.alloc (.cells c t)).heap[w.heap.size]? = some (.cells c t) := heap_alloc_new w _
  refine ⟨?_, ?_⟩
  · rw [cell_of_row _ _ _ _ _ _ e]
    simp; omega
  · exact frozen_of_row _ _ _ _ _ e
theorem rangeAt_alloc_new (w : World) (t : TypeId) (cs : List Value) : (w.alloc (.cells cs.toArray t)).rangeAt w.heap.size 0 cs := by
  intro j v hv
  have e : (w.alloc (.cells cs.toArray t)).heap[w.heap.size]? = some (.cells cs.toArray t) := heap_alloc_new w _
  rw [cell_of_row _ _ _ _ _ _ e, Nat.zero_add]
  simpa using hv

/-- one cell of a range is put -/
theorem range_set {w : World} {b : Nat} {cs : List Value} (h : w.rangeAt b 0 cs) (k : Nat) (hk : k < cs.length) (v : Value) :
    (w.setCell ⟨b, k, none⟩ v).rangeAt b 0 (cs.set k v) := by
  intro j u hj
  rw [List.getElem?_set] at hj
  by_cases e : k = j
  · subst e
    rw [if_pos rfl, if_pos hk] at hj
    cases hj
    have h1 := h k cs[k] (by simp [hk])
    rw [Nat.zero_add] at h1 ⊢
    exact World.cell?_setCell_same' _ _ _ (by rw [h1]; rfl)
  · rw [if_neg e] at hj
    rw [← h j u hj]
    exact World.cell?_setCell_other _ _ _ _ (by intro e2; injection e2 with e3 e4; omega)
theorem range_put {w : World} {b : Nat} {cs : List Value} (h : w.rangeAt b 0 cs) (b2 k : Nat) (hb : b ≠ b2) (v : Value) :
    (w.setCell ⟨b2, k, none⟩ v).rangeAt b 0 cs := by
  intro j u hj
  rw [← h j u hj]
  exact World.cell?_setCell_other _ _ _ _ (by intro e2; injection e2 with e3 e4; omega)

/-- words and bytes of a number, as cells -/
def wl (n v : Nat) : List Value := (ds B n v).map fun z : Nat => .int .u64 (z : Int)
def yl (n v : Nat) : List Value := (ds 256 n v).map fun z : Nat => .int .u8 (z : Int)
theorem wl_length (n v : Nat) : (wl n v).length = n := by simp [wl, ds_length]
theorem yl_length (n v : Nat) : (yl n v).length = n := by simp [yl, ds_length]
theorem wl_get (n v i : Nat) (h : i < n) : (wl n v)[i]? = some (.int .u64 ((dg B v i : Nat) : Int)) := by simp [wl, ds_get _ _ _ _ h]
theorem yl_get (n v i : Nat) (h : i < n) : (yl n v)[i]? = some (.int .u8 ((dg 256 v i : Nat) : Int)) := by simp [yl, ds_get _ _ _ _ h]
theorem wl_one (n v : Nat) : ∀ u ∈ wl n v, u.oneCell' = true := by
  intro u hu
  simp only [wl, List.mem_map] at hu
  obtain ⟨i, _, rfl⟩ := hu
  rfl
theorem yl_one (n v : Nat) : ∀ u ∈ yl n v, u.oneCell' = true := by
  intro u hu
  simp only [yl, List.mem_map] at hu
  obtain ⟨i, _, rfl⟩ := hu
  rfl
theorem wl_set {n v k z : Nat} (hz : z < B) (hk : k < n) : (wl n v).set k (.int .u64 (z : Int)) = wl n (st B v k z) := by
  rw [wl, wl, ← ds_set B_pos hz hk, List.map_set]
theorem yl_set {n v k z : Nat} (hz : z < 256) (hk : k < n) : (yl n v).set k (.int .u8 (z : Int)) = yl n (st 256 v k z) := by
  rw [yl, yl, ← ds_set (by decide) hz hk, List.map_set]
theorem wrange_set {w : World} {b n v : Nat} (h : w.rangeAt b 0 (wl n v)) {k z : Nat} (hz : z < B) (hk : k < n) : (w.setCell ⟨b, k, none⟩ (.int .u64 (z : Int))).rangeAt b 0 (wl n (st B v k z)) := by
  rw [← wl_set hz hk]; exact range_set h k (by rw [wl_length]; exact hk) _
theorem yrange_set {w : World} {b n v : Nat} (h : w.rangeAt b 0 (yl n v)) {k z : Nat} (hz : z < 256) (hk : k < n) : (w.setCell ⟨b, k, none⟩ (.int .u8 (z : Int))).rangeAt b 0 (yl n (st 256 v k z)) := by
  rw [← yl_set hz hk]; exact range_set h k (by rw [yl_length]; exact hk) _
end Go.Proofs.YteijccjdejjbjaaDoor
