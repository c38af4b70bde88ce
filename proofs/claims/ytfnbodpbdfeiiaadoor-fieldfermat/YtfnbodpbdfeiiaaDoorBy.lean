import Derived.Test.YtfnbodpbdfeiiaaDoorLd2
namespace Go.Proofs.YtfnbodpbdfeiiaaDoor
open Go.RowKit Go.Shelf FieldNum

theorem grown_setCells {W : World} {b : Nat} (hb : W.heap.size ≤ b) : ∀ (vs : List Value) (o : Nat) {w' : World}, Grown W w' → Grown W (w'.setCells b o vs)
  | [], _, _, h => h
  | v :: r, o, _, h => grown_setCells hb r (o + 1) (Grown.setCell h hb v)

theorem there_grown {w w' : World} {b o n : Nat} (h : w.there b o n) (hg : Grown w w') : w'.there b o n := by
  intro j hj
  obtain ⟨h1, h2⟩ := h j hj
  obtain ⟨v, hv⟩ := Option.isSome_iff_exists.1 h1
  have hb : b < w.heap.size := block_lt_of_cell hv
  exact ⟨by rw [grown_cell hg _ _ hb]; exact h1, by rw [hg.2.1]; exact h2⟩

theorem rangeAt_grown {w w' : World} {b o : Nat} {cs : List Value} (h : w.rangeAt b o cs) (hg : Grown w w') : w'.rangeAt b o cs := by
  intro j v hv
  have h1 := h j v hv
  have hb : b < w.heap.size := block_lt_of_cell h1
  rw [grown_cell hg _ _ hb]; exact h1

theorem there_alloc_new (w : World) (t : TypeId) (c : Array Value) (n : Nat) (hn : n ≤ c.size) : (w.alloc (.cells c t)).there w.heap.size 0 n := by
  intro j hj
  have e : (w.alloc (.cells c t)).heap[w.heap.size]? = some (.cells c t) := heap_alloc_new w _
  refine ⟨?_, ?_⟩
  · rw [cell_of_row _ _ _ _ _ _ e]
    simp; omega
  · exact frozen_of_row _ _ _ _ _ e

theorem there_setCell {w : World} {b o n : Nat} (h : w.there b o n) (a : Addr) (v : Value) : (w.setCell a v).there b o n := by
  intro j hj
  obtain ⟨h1, h2⟩ := h j hj
  obtain ⟨u, hu⟩ := Option.isSome_iff_exists.1 h1
  obtain ⟨v', hv'⟩ := cell?_setCell_some (p := a) (x := v) hu
  exact ⟨by rw [hv']; rfl, (World.frozen?_setCell _ _ _ _).trans h2⟩

theorem info32 : (Tryd.prog.info? 22).map (·.size) = some 32 := by kernel_rfl

theorem wpList_load32 {ops : Array Oper} {rest : List Oper} {op : Oper} {a : Act} {w : World} {Q : Exit → Act → World → Prop} (hgd : op.guard = none) (x : Operand) (ho : op.op = .load 22 x)
    (b : Nat) (hx : a.eval x = .pointer (some ⟨b, 0, none⟩)) (n : Nat) (hc : w.rangeAt b 0 (bl n))
    (h : wpList Tryd.prog ops Q rest (a.put op.dst (bv n)) w) : wpList Tryd.prog ops Q (op :: rest) a w :=
  wpList_load_mid hgd 22 x ho b 0 hx (bl n) _ hc Tryd.underlying22 rfl (by rw [bl_length]; exact info32) h

theorem wpList_store32 {ops : Array Oper} {rest : List Oper} {op : Oper} {a : Act} {w : World} {Q : Exit → Act → World → Prop} (hgd : op.guard = none) (x y : Operand) (ho : op.op = .store 22 x y)
    (b n : Nat) (hx : a.eval x = .pointer (some ⟨b, 0, none⟩)) (hy : a.eval y = bv n) (ht : w.there b 0 32)
    (h : wpList Tryd.prog ops Q rest (a.put op.dst undef) (w.setCells b 0 (bl n))) : wpList Tryd.prog ops Q (op :: rest) a w :=
  wpList_store_mid hgd 22 x y ho b 0 (bl n).toArray hx hy (by rw [List.size_toArray, bl_length]; exact ht) (by rw [List.size_toArray, bl_length]; exact info32) (all_oneCell_toArray (bl_one n)) h

theorem result32 {fn : Func} {q : Tmp} (h : fn.results = #[.cell q 22]) (tmps : Array Value) (w : World) (b n : Nat)
    (hp : tmps.getD q undef = .pointer (some ⟨b, 0, none⟩)) (hc : w.rangeAt b 0 (bl n)) : (results fn tmps).run Tryd.prog w = .ok (bv n) w := by
  have hp' : tmps[q]?.getD undef = .pointer (some ⟨b, 0, none⟩) := by simpa using hp
  simp [results, h, hp', asAddr, run_loadVar_mid w b 0 22 (bl n) _ hc Tryd.underlying22 rfl (by rw [bl_length]; exact info32), bv]

/-- how far the bytes are written -/
structure BW (w0 : World) (xb g r : Nat) (y0 y1 y2 y3 : Int) (got : List Value) (W1 : World) : Prop where
  row : Row4 W1 xb y0 y1 y2 y3
  got : W1.rangeAt g 0 got
  thg : W1.there g 0 32
  thr : W1.there r 0 32
  gx : g ≠ xb
  gr : g ≠ r
  gw : w0.heap.size ≤ g
  grown : Grown w0 W1
  fg : ∀ i, W1.frozen? ⟨g, i, none⟩ = false

theorem setCells_other {w : World} {b b' : Nat} {y0 y1 y2 y3 : Int} (h : Row4 w b' y0 y1 y2 y3) (hb : b ≠ b') (o : Nat) (vs : List Value) : Row4 (w.setCells b o vs) b' y0 y1 y2 y3 := by
  have hc : ∀ i, (w.setCells b o vs).cell? ⟨b', i, none⟩ = w.cell? ⟨b', i, none⟩ := fun i =>
    World.cell?_setCells_out b vs o w _ (fun e => absurd e.symm hb)
  exact ⟨(hc 0).trans h.c0, (hc 1).trans h.c1, (hc 2).trans h.c2, (hc 3).trans h.c3, fun i => (World.frozen?_setCells b vs o w _).trans (h.fr i)⟩

theorem BW.step {w0 W1 W2 : World} {xb g r : Nat} {y0 y1 y2 y3 : Int} {got : List Value} (h : BW w0 xb g r y0 y1 y2 y3 got W1) (o : Nat) (vs : List Value) (ho : o = got.length)
    (hl : o + vs.length ≤ 32) (e : W2 = W1.drew.setCells g o vs) : BW w0 xb g r y0 y1 y2 y3 (got ++ vs) W2 := by
  subst e
  have hrow : Row4 W1.drew xb y0 y1 y2 y3 := ⟨h.row.c0, h.row.c1, h.row.c2, h.row.c3, h.row.fr⟩
  refine ⟨setCells_other hrow h.gx o vs, ?_, World.there_setCells (w := W1.drew) h.thg g o vs, World.there_setCells (w := W1.drew) h.thr g o vs, h.gx, h.gr, h.gw, grown_setCells h.gw vs o (Grown.drew h.grown), fun i => (World.frozen?_setCells g vs o W1.drew _).trans (h.fg i)⟩
  intro j v hv
  by_cases hj : j < got.length
  · rw [List.getElem?_append_left hj] at hv
    rw [World.cell?_setCells_out g vs o W1.drew _ (fun _ _ => by left; simp; omega)]
    exact h.got j v hv
  · rw [List.getElem?_append_right (by omega)] at hv
    have hj' : j - got.length < vs.length := by
      have := List.getElem?_eq_some_iff.1 hv; exact this.1
    have hth : W1.drew.there g o vs.length := by
      intro i hi
      have := h.thg (o + i) (by omega)
      rw [Nat.zero_add] at this
      exact this
    have := World.rangeAt_setCells_same W1.drew g o vs hth (j - got.length) v hv
    have e2 : o + (j - got.length) = 0 + j := by omega
    rw [e2] at this
    exact this

/-- eight bytes of a word -/
def b8 (v : Int) : List Value := [.int .u8 (v % 256), .int .u8 (v / 256 % 256), .int .u8 (v / 65536 % 256), .int .u8 (v / 16777216 % 256), .int .u8 (v / 4294967296 % 256), .int .u8 (v / 1099511627776 % 256), .int .u8 (v / 281474976710656 % 256), .int .u8 (v / 72057594037927936 % 256)]

theorem putWord_bw {w0 W1 : World} {xb g r : Nat} {y0 y1 y2 y3 : Int} {got : List Value} (h : BW w0 xb g r y0 y1 y2 y3 got W1) (o cap : Nat) (v : Int) (ho : o = got.length) (hl : o + 8 ≤ 32) :
    Calls Tryd.prog 37 #[.slice (some ⟨g, o, none⟩) 8 cap, .int .u64 v] W1.drew fun e w' => e = .returned (.tuple #[]) ∧ BW w0 xb g r y0 y1 y2 y3 (got ++ b8 v) w' := by
  have hc : ∀ j, j < 8 → ∃ u, W1.drew.cell? ⟨g, o + j, none⟩ = some u := fun j hj => by
    have := (h.thg (o + j) (by omega)).1
    rw [Nat.zero_add] at this
    exact Option.isSome_iff_exists.1 this
  obtain ⟨u0, c0⟩ := hc 0 (by decide)
  obtain ⟨u1, c1⟩ := hc 1 (by decide)
  obtain ⟨u2, c2⟩ := hc 2 (by decide)
  obtain ⟨u3, c3⟩ := hc 3 (by decide)
  obtain ⟨u4, c4⟩ := hc 4 (by decide)
  obtain ⟨u5, c5⟩ := hc 5 (by decide)
  obtain ⟨u6, c6⟩ := hc 6 (by decide)
  obtain ⟨u7, c7⟩ := hc 7 (by decide)
  have fr : ∀ i, W1.drew.frozen? ⟨g, i, none⟩ = false := h.fg
  refine (putWord_any g o cap v W1.drew u0 u1 u2 u3 u4 u5 u6 u7 c0 c1 c2 c3 c4 c5 c6 c7 fr).mono ?_
  rintro e w' ⟨rfl, hw⟩
  exact ⟨rfl, h.step o (b8 v) ho (by simp [b8]; omega) hw⟩

theorem bl_words {y0 y1 y2 y3 : Int} (k0 : W y0) (k1 : W y1) (k2 : W y2) (_k3 : W y3) (z : Nat) (hz : (z : Int) = V y0 y1 y2 y3) : [] ++ b8 y0 ++ b8 y1 ++ b8 y2 ++ b8 y3 = bl z := by
  unfold W V at *
  simp only [bl, b8, List.nil_append, List.cons_append, List.range, List.range.loop, List.map]
  simp only [List.cons.injEq, Value.int.injEq, true_and, and_true, Nat.reducePow]
  refine ⟨?_, ?_, ?_, ?_, ?_, ?_, ?_, ?_, ?_, ?_, ?_, ?_, ?_, ?_, ?_, ?_, ?_, ?_, ?_, ?_, ?_, ?_, ?_, ?_, ?_, ?_, ?_, ?_, ?_, ?_, ?_, ?_⟩ <;> omega

set_option maxHeartbeats 1000000 in
theorem bytes_any (x0 x1 x2 x3 : Int) (h0 : W x0) (h1 : W x1) (h2 : W x2) (h3 : W x3) (w : World) :
    Calls Tryd.prog 24 #[numW x0 x1 x2 x3] w fun e w' => (∃ z : Nat, (z : Int) = V x0 x1 x2 x3 % pI ∧ e = .returned (bv z)) ∧ Grown w w' := by
  go_enter Tryd.func24, Tryd.ntmps24
  go_wp2_with fail
  refine (canonical_any x0 x1 x2 x3 h0 h1 h2 h3 _).mono ?_
  rintro e w' ⟨⟨y0, y1, y2, y3, rfl, k0, k1, k2, k3, ke⟩, hg⟩
  have hw : Grown w w' := grown_trans (by go_grown) hg
  have hc_hg := grown_cell hg
  have hf_hg := hg.2.1
  have hs_hg := hg.2.2
  simp only [World.size_alloc] at hs_hg
  have hr4 : Row4 w' w.heap.size x0 x1 x2 x3 := Row4.grown ⟨by simp [go_sem], by simp [go_sem], by simp [go_sem], by simp [go_sem], by simp [go_sem]⟩ hg
  have htr : w'.there (w.heap.size + 1) 0 32 := there_grown (by intro j hj; simp [go_sem]; omega) hg
  have B0 : BW w w.heap.size w'.heap.size (w.heap.size + 1) y0 y1 y2 y3 [] (((((w'.setCell ⟨w.heap.size, 0, none⟩ (Value.int IntKind.u64 y0)).setCell ⟨w.heap.size, 1, none⟩ (Value.int IntKind.u64 y1)).setCell ⟨w.heap.size, 2, none⟩ (Value.int IntKind.u64 y2)).setCell ⟨w.heap.size, 3, none⟩ (Value.int IntKind.u64 y3)).alloc (Obj.cells #[Value.int IntKind.u8 0, Value.int IntKind.u8 0, Value.int IntKind.u8 0, Value.int IntKind.u8 0, Value.int IntKind.u8 0, Value.int IntKind.u8 0, Value.int IntKind.u8 0, Value.int IntKind.u8 0, Value.int IntKind.u8 0, Value.int IntKind.u8 0, Value.int IntKind.u8 0, Value.int IntKind.u8 0, Value.int IntKind.u8 0, Value.int IntKind.u8 0, Value.int IntKind.u8 0, Value.int IntKind.u8 0, Value.int IntKind.u8 0, Value.int IntKind.u8 0, Value.int IntKind.u8 0, Value.int IntKind.u8 0, Value.int IntKind.u8 0, Value.int IntKind.u8 0, Value.int IntKind.u8 0, Value.int IntKind.u8 0, Value.int IntKind.u8 0, Value.int IntKind.u8 0, Value.int IntKind.u8 0, Value.int IntKind.u8 0, Value.int IntKind.u8 0, Value.int IntKind.u8 0, Value.int IntKind.u8 0, Value.int IntKind.u8 0] 22)) := by
    have hset := hr4.set y0 y1 y2 y3
    have e : (set4 w' w.heap.size y0 y1 y2 y3).heap.size = w'.heap.size := by simp
    have hn := there_alloc_new (set4 w' w.heap.size y0 y1 y2 y3) 22 #[Value.int IntKind.u8 0, Value.int IntKind.u8 0, Value.int IntKind.u8 0, Value.int IntKind.u8 0, Value.int IntKind.u8 0, Value.int IntKind.u8 0, Value.int IntKind.u8 0, Value.int IntKind.u8 0, Value.int IntKind.u8 0, Value.int IntKind.u8 0, Value.int IntKind.u8 0, Value.int IntKind.u8 0, Value.int IntKind.u8 0, Value.int IntKind.u8 0, Value.int IntKind.u8 0, Value.int IntKind.u8 0, Value.int IntKind.u8 0, Value.int IntKind.u8 0, Value.int IntKind.u8 0, Value.int IntKind.u8 0, Value.int IntKind.u8 0, Value.int IntKind.u8 0, Value.int IntKind.u8 0, Value.int IntKind.u8 0, Value.int IntKind.u8 0, Value.int IntKind.u8 0, Value.int IntKind.u8 0, Value.int IntKind.u8 0, Value.int IntKind.u8 0, Value.int IntKind.u8 0, Value.int IntKind.u8 0, Value.int IntKind.u8 0] 32 (by simp)
    have hb := heap_alloc_new (set4 w' w.heap.size y0 y1 y2 y3) (Obj.cells #[Value.int IntKind.u8 0, Value.int IntKind.u8 0, Value.int IntKind.u8 0, Value.int IntKind.u8 0, Value.int IntKind.u8 0, Value.int IntKind.u8 0, Value.int IntKind.u8 0, Value.int IntKind.u8 0, Value.int IntKind.u8 0, Value.int IntKind.u8 0, Value.int IntKind.u8 0, Value.int IntKind.u8 0, Value.int IntKind.u8 0, Value.int IntKind.u8 0, Value.int IntKind.u8 0, Value.int IntKind.u8 0, Value.int IntKind.u8 0, Value.int IntKind.u8 0, Value.int IntKind.u8 0, Value.int IntKind.u8 0, Value.int IntKind.u8 0, Value.int IntKind.u8 0, Value.int IntKind.u8 0, Value.int IntKind.u8 0, Value.int IntKind.u8 0, Value.int IntKind.u8 0, Value.int IntKind.u8 0, Value.int IntKind.u8 0, Value.int IntKind.u8 0, Value.int IntKind.u8 0, Value.int IntKind.u8 0, Value.int IntKind.u8 0] 22)
    rw [e] at hn hb
    refine ⟨Row4.grown hset (Grown.alloc (Grown.refl _) _ _), ?_, hn, there_grown (there_setCell (there_setCell (there_setCell (there_setCell htr _ _) _ _) _ _) _ _) (Grown.alloc (Grown.refl _) _ _), by omega, by omega, by omega, by go_grown, fun i => frozen_of_row _ _ _ _ _ hb⟩
    intro j v hv
    simp at hv
  go_wp2_with fail
  clear hc_hg hf_hg hg hr4 htr
  generalize (((((w'.setCell ⟨w.heap.size, 0, none⟩ (Value.int IntKind.u64 y0)).setCell ⟨w.heap.size, 1, none⟩ (Value.int IntKind.u64 y1)).setCell ⟨w.heap.size, 2, none⟩ (Value.int IntKind.u64 y2)).setCell ⟨w.heap.size, 3, none⟩ (Value.int IntKind.u64 y3)).alloc (Obj.cells #[Value.int IntKind.u8 0, Value.int IntKind.u8 0, Value.int IntKind.u8 0, Value.int IntKind.u8 0, Value.int IntKind.u8 0, Value.int IntKind.u8 0, Value.int IntKind.u8 0, Value.int IntKind.u8 0, Value.int IntKind.u8 0, Value.int IntKind.u8 0, Value.int IntKind.u8 0, Value.int IntKind.u8 0, Value.int IntKind.u8 0, Value.int IntKind.u8 0, Value.int IntKind.u8 0, Value.int IntKind.u8 0, Value.int IntKind.u8 0, Value.int IntKind.u8 0, Value.int IntKind.u8 0, Value.int IntKind.u8 0, Value.int IntKind.u8 0, Value.int IntKind.u8 0, Value.int IntKind.u8 0, Value.int IntKind.u8 0, Value.int IntKind.u8 0, Value.int IntKind.u8 0, Value.int IntKind.u8 0, Value.int IntKind.u8 0, Value.int IntKind.u8 0, Value.int IntKind.u8 0, Value.int IntKind.u8 0, Value.int IntKind.u8 0] 22)) = W1 at B0 ⊢
  go_region_held3 (fun w2 => w2.cell? ⟨w.heap.size, 0, none⟩ = some (.int .u64 y0)) (first | exact B0.row.c0 | exact B1.row.c0)
    (first | (go_at_call 37; refine Calls.mono (putWord_bw B0 0 _ y0 (by simp) (by decide)) ?_; rintro e w2 ⟨rfl, B1⟩))
  go_wp2_with fail
  go_region_held3 (fun w2 => w2.cell? ⟨w.heap.size, 1, none⟩ = some (.int .u64 y1)) (first | exact B1.row.c1 | exact B2.row.c1)
    (first | (go_at_call 37; refine Calls.mono (putWord_bw B1 8 _ y1 (by simp [b8]) (by decide)) ?_; rintro e w3 ⟨rfl, B2⟩))
  go_wp2_with fail
  go_region_held3 (fun w2 => w2.cell? ⟨w.heap.size, 2, none⟩ = some (.int .u64 y2)) (first | exact B2.row.c2 | exact B3.row.c2)
    (first | (go_at_call 37; refine Calls.mono (putWord_bw B2 16 _ y2 (by simp [b8]) (by decide)) ?_; rintro e w4 ⟨rfl, B3⟩))
  go_wp2_with fail
  go_region_held3 (fun w2 => w2.cell? ⟨w.heap.size, 3, none⟩ = some (.int .u64 y3)) (first | exact B3.row.c3 | exact B4.row.c3)
    (first | (go_at_call 37; refine Calls.mono (putWord_bw B3 24 _ y3 (by simp [b8]) (by decide)) ?_; rintro e w5 ⟨rfl, B4⟩))
  obtain ⟨z, hz⟩ : ∃ z : Nat, (z : Int) = V y0 y1 y2 y3 := ⟨(V y0 y1 y2 y3).toNat, by have := V_nonneg k0 k1 k2 k3; omega⟩
  have hgot := B4.got
  rw [bl_words k0 k1 k2 k3 z hz] at hgot
  have hthr := B4.thr
  have hgw := B4.grown
  clear B0 B1 B2 B3 B4
  go_step
  go_step
  go_step
  apply wp_region_lit
  refine wpList_load32 rfl _ rfl _ rfl z hgot ?_
  simp only [Act.put, List.setIfInBounds_toArray, List.set_cons_zero, List.set_cons_succ]
  refine wpList_store32 rfl _ _ rfl _ z rfl rfl hthr ?_
  simp only [Act.put]
  apply wpList_nil
  repeat go_step
  refine bodyPost_ret (v := bv z) (result32 Tryd.results24 _ _ (w.heap.size + 1) z ?hp (World.rangeAt_setCells_same _ _ _ _ (by rw [bl_length]; exact hthr))) ?hd ?_
  case hp => rfl
  case hd => rfl
  exact ⟨⟨z, hz.trans ke, rfl⟩, grown_setCells (by omega) _ _ hgw⟩
end Go.Proofs.YtfnbodpbdfeiiaaDoor
