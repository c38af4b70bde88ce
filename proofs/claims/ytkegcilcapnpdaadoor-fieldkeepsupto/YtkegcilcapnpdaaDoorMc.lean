import Derived.Test.YtkegcilcapnpdaaDoorMb
import Derived.Deep.QuietTactic
import Derived.BigQuiet
import Derived.Deep.RegionHeld3
namespace Go.Proofs.YtkegcilcapnpdaaDoor
open Go.RowKit Go.Shelf FieldNum

theorem or_add (a b : Int) (k : Nat) (ha : 0 ≤ a) (hb : 0 ≤ b) (haK : a < 2 ^ k) (hbb : b * 2 ^ k < 18446744073709551616) (hk : k < 64) :
    bits .or .u64 a (b * 2 ^ k) = a + b * 2 ^ k := by
  obtain ⟨a, rfl⟩ := Int.eq_ofNat_of_zero_le ha
  obtain ⟨b, rfl⟩ := Int.eq_ofNat_of_zero_le hb
  have e : ((b : Int) * 2 ^ k) = ((b * 2 ^ k : Nat) : Int) := by simp
  have haN : a < 2 ^ k := by
    have : ((2 ^ k : Nat) : Int) = 2 ^ k := by simp
    omega
  rw [e] at hbb ⊢
  have hK : 2 ^ k < 2 ^ 64 := Nat.pow_lt_pow_right (by decide) hk
  rw [bits_or_u64_nat a (b * 2 ^ k) (by omega) (by omega)]
  have h := Nat.two_pow_add_eq_or_of_lt haN b
  rw [Nat.or_comm, Nat.mul_comm b, ← h]
  simp [Int.add_comm]

theorem or_byte (a b : Int) (K : Int) (k : Nat) (hK : K = 2 ^ k) (ha : 0 ≤ a) (hb : 0 ≤ b) (haK : a < K) (hbb : b * K < 18446744073709551616) (hk : k < 64) :
    bits .or .u64 a (b * K) = a + K * b := by
  subst hK
  rw [or_add a b k ha hb haK hbb hk, Int.mul_comm]

set_option maxHeartbeats 1000000 in
theorem word_any (g o : Nat) (cap : Nat) (b0 b1 b2 b3 b4 b5 b6 b7 : Int) (w : World)
    (c0 : w.cell? ⟨g, o, none⟩ = some (.int .u8 b0)) (c1 : w.cell? ⟨g, o + 1, none⟩ = some (.int .u8 b1)) (c2 : w.cell? ⟨g, o + 2, none⟩ = some (.int .u8 b2)) (c3 : w.cell? ⟨g, o + 3, none⟩ = some (.int .u8 b3))
    (c4 : w.cell? ⟨g, o + 4, none⟩ = some (.int .u8 b4)) (c5 : w.cell? ⟨g, o + 5, none⟩ = some (.int .u8 b5)) (c6 : w.cell? ⟨g, o + 6, none⟩ = some (.int .u8 b6)) (c7 : w.cell? ⟨g, o + 7, none⟩ = some (.int .u8 b7))
    (h0 : 0 ≤ b0 ∧ b0 < 256) (h1 : 0 ≤ b1 ∧ b1 < 256) (h2 : 0 ≤ b2 ∧ b2 < 256) (h3 : 0 ≤ b3 ∧ b3 < 256) (h4 : 0 ≤ b4 ∧ b4 < 256) (h5 : 0 ≤ b5 ∧ b5 < 256) (h6 : 0 ≤ b6 ∧ b6 < 256) (h7 : 0 ≤ b7 ∧ b7 < 256) :
    Calls Tryd.prog 77 #[.slice (some ⟨g, o, none⟩) 8 cap] w fun e w' =>
      e = .returned (.int .u64 (b0 + 256 * b1 + 65536 * b2 + 16777216 * b3 + 4294967296 * b4 + 1099511627776 * b5 + 281474976710656 * b6 + 72057594037927936 * b7)) ∧ ∃ m, w' = w.drewN m := by
  go_enter Tryd.func77, Tryd.ntmps77
  go_wp2
  go_quiet (fail)
  go_wp2
  have e1 := or_byte b0 b1 256 8 (by decide) h0.1 h1.1 (by omega) (by omega) (by decide)
  have e2 := or_byte (b0 + 256 * b1) b2 65536 16 (by decide) (by omega) h2.1 (by omega) (by omega) (by decide)
  have e3 := or_byte (b0 + 256 * b1 + 65536 * b2) b3 16777216 24 (by decide) (by omega) h3.1 (by omega) (by omega) (by decide)
  have e4 := or_byte (b0 + 256 * b1 + 65536 * b2 + 16777216 * b3) b4 4294967296 32 (by decide) (by omega) h4.1 (by omega) (by omega) (by decide)
  have e5 := or_byte (b0 + 256 * b1 + 65536 * b2 + 16777216 * b3 + 4294967296 * b4) b5 1099511627776 40 (by decide) (by omega) h5.1 (by omega) (by omega) (by decide)
  have e6 := or_byte (b0 + 256 * b1 + 65536 * b2 + 16777216 * b3 + 4294967296 * b4 + 1099511627776 * b5) b6 281474976710656 48 (by decide) (by omega) h6.1 (by omega) (by omega) (by decide)
  have e7 := or_byte (b0 + 256 * b1 + 65536 * b2 + 16777216 * b3 + 4294967296 * b4 + 1099511627776 * b5 + 281474976710656 * b6) b7 72057594037927936 56 (by decide) (by omega) h7.1 (by omega) (by omega) (by decide)
  rw [e1, e2, e3, e4, e5, e6, e7]
  go_ret
  exact ⟨rfl, _, rfl⟩

/-- the bytes of a number, as cells -/
def bl (n : Nat) : List Value := (List.range 32).map fun i => .int .u8 ((n / 256 ^ i % 256 : Nat) : Int)
/-- .. as an array's value -/
def bv (n : Nat) : Value := .agg (bl n).toArray

theorem bl_length (n : Nat) : (bl n).length = 32 := by simp [bl]
theorem bl_get (n i : Nat) (h : i < 32) : (bl n)[i]? = some (.int .u8 ((n / 256 ^ i % 256 : Nat) : Int)) := by
  simp [bl, h]
theorem bl_one (n : Nat) : ∀ v ∈ bl n, v.oneCell' = true := by
  intro v hv
  simp only [bl, List.mem_map] at hv
  obtain ⟨i, _, rfl⟩ := hv
  rfl

/-- a word out of the bytes of a number -/
theorem word_num (x g o cap : Nat) (w : World) (hr : ∀ j, j < 8 → w.cell? ⟨g, o + j, none⟩ = some (.int .u8 ((x / 256 ^ (o + j) % 256 : Nat) : Int))) :
    Calls Tryd.prog 77 #[.slice (some ⟨g, o, none⟩) 8 cap] w fun e w' =>
      e = .returned (.int .u64 ((x / 256 ^ o % 18446744073709551616 : Nat) : Int)) ∧ ∃ m, w' = w.drewN m := by
  have hy : ∀ j, x / 256 ^ (o + j) = x / 256 ^ o / 256 ^ j := fun j => by rw [Nat.pow_add, Nat.div_div_eq_div_mul]
  simp only [hy] at hr
  generalize x / 256 ^ o = y at *
  have r0 := hr 0 (by decide)
  have r1 := hr 1 (by decide)
  have r2 := hr 2 (by decide)
  have r3 := hr 3 (by decide)
  have r4 := hr 4 (by decide)
  have r5 := hr 5 (by decide)
  have r6 := hr 6 (by decide)
  have r7 := hr 7 (by decide)
  have bd : ∀ n : Nat, 0 ≤ ((n % 256 : Nat) : Int) ∧ ((n % 256 : Nat) : Int) < 256 := fun n => by omega
  refine (word_any g o cap _ _ _ _ _ _ _ _ w r0 r1 r2 r3 r4 r5 r6 r7 (bd _) (bd _) (bd _) (bd _) (bd _) (bd _) (bd _) (bd _)).mono ?_
  rintro e w' ⟨rfl, hw⟩
  refine ⟨?_, hw⟩
  congr 2
  simp only [Nat.reducePow]
  omega
end Go.Proofs.YtkegcilcapnpdaaDoor

namespace Go.Proofs.YtkegcilcapnpdaaDoor
open Go.RowKit Go.Shelf FieldNum

theorem grown_drewN {W w' : World} (h : Grown W w') (n : Nat) : Grown W (w'.drewN n) := h

set_option maxHeartbeats 1000000 in
theorem load_any (x : Nat) (w : World) :
    Calls Tryd.prog 50 #[bv x] w fun e w' =>
      e = .returned (numW ((x / 256 ^ 0 % 18446744073709551616 : Nat) : Int) ((x / 256 ^ 8 % 18446744073709551616 : Nat) : Int) ((x / 256 ^ 16 % 18446744073709551616 : Nat) : Int) ((x / 256 ^ 24 % 18446744073709551616 : Nat) : Int)) ∧ Grown w w' := by
  unfold bv
  go_enter Tryd.func50, Tryd.ntmps50
  go_wp2
  have hcell : ∀ (w' : World), w'.heap = ((w.alloc (Obj.cells (bl x).toArray 23)).alloc (Obj.cells #[Value.int IntKind.u64 0, Value.int IntKind.u64 0, Value.int IntKind.u64 0, Value.int IntKind.u64 0] 66)).heap →
      ∀ o : Nat, o ≤ 24 → ∀ j, j < 8 → w'.cell? ⟨w.heap.size, o + j, none⟩ = some (.int .u8 ((x / 256 ^ (o + j) % 256 : Nat) : Int)) := by
    intro w' hw' o ho j hj
    have e : w'.heap[w.heap.size]? = some (Obj.cells (bl x).toArray 23) := by
      rw [hw', heap_alloc2_old]
    rw [cell_of_row w' w.heap.size (o + j) _ _ _ e, List.getElem?_toArray]
    exact bl_get x (o + j) (by omega)
  go_region_held3 (fun _ => True) (trivial) (first
    | (go_at_call 77; refine Calls.mono (word_num x w.heap.size _ _ _ ?hc) ?_; (case hc => exact hcell _ rfl _ (by decide)); rintro e w' ⟨rfl, m, rfl⟩))
  go_wp2
  refine bodyPost_ret (v := numW ((x / 256 ^ 0 % 18446744073709551616 : Nat) : Int) ((x / 256 ^ 8 % 18446744073709551616 : Nat) : Int) ((x / 256 ^ 16 % 18446744073709551616 : Nat) : Int) ((x / 256 ^ 24 % 18446744073709551616 : Nat) : Int)) (by simp [results, Tryd.results50, go_sem]) rfl ?_
  exact ⟨rfl, by go_grown; exact grown_drewN (by go_grown) _⟩
set_option maxHeartbeats 1000000 in
theorem putWord_any (g o cap : Nat) (v : Int) (w : World) (u0 u1 u2 u3 u4 u5 u6 u7 : Value)
    (c0 : w.cell? ⟨g, o, none⟩ = some u0) (c1 : w.cell? ⟨g, o + 1, none⟩ = some u1) (c2 : w.cell? ⟨g, o + 2, none⟩ = some u2) (c3 : w.cell? ⟨g, o + 3, none⟩ = some u3)
    (c4 : w.cell? ⟨g, o + 4, none⟩ = some u4) (c5 : w.cell? ⟨g, o + 5, none⟩ = some u5) (c6 : w.cell? ⟨g, o + 6, none⟩ = some u6) (c7 : w.cell? ⟨g, o + 7, none⟩ = some u7)
    (fr : ∀ i, w.frozen? ⟨g, i, none⟩ = false) :
    Calls Tryd.prog 81 #[.slice (some ⟨g, o, none⟩) 8 cap, .int .u64 v] w fun e w' =>
      e = .returned (.tuple #[]) ∧ w' = w.setCells g o [.int .u8 (v % 256), .int .u8 (v / 256 % 256), .int .u8 (v / 65536 % 256), .int .u8 (v / 16777216 % 256), .int .u8 (v / 4294967296 % 256), .int .u8 (v / 1099511627776 % 256), .int .u8 (v / 281474976710656 % 256), .int .u8 (v / 72057594037927936 % 256)] := by
  go_enter Tryd.func81, Tryd.ntmps81
  go_wp2
  go_returns
  exact ⟨rfl, rfl⟩
end Go.Proofs.YtkegcilcapnpdaaDoor

namespace Go.Proofs.YtkegcilcapnpdaaDoor
open Go.RowKit Go.Shelf FieldNum

theorem grown_setCells {W : World} {b : Nat} (hb : W.heap.size ≤ b) : ∀ (vs : List Value) (o : Nat) {w' : World}, Grown W w' → Grown W (w'.setCells b o vs)
  | [], _, _, h => h
  | v :: r, o, _, h => grown_setCells hb r (o + 1) (Grown.setCell h hb v)

theorem there_grown {w w' : World} {b o n : Nat} (h : w.there b o n) (hg : Grown w w') : w'.there b o n := by
  intro j hj
  obtain ⟨h1, h2⟩ := h j hj
  obtain ⟨v, hv⟩ := Option.isSome_iff_exists.1 h1
  have hb : b < w.heap.size := block_lt_of_cell hv
  exact ⟨by rw [grown_cell hg _ _ hb]; exact h1, by rw [hg.2.1]; exact h2⟩

theorem rangeAt_grown {w w' : World} {b o : Nat} {cs : List Value} (h : w.rangeAt b o cs) (hg : Grown w w') : w'.rangeAt b o cs := by
  intro j v hv
  have h1 := h j v hv
  have hb : b < w.heap.size := block_lt_of_cell h1
  rw [grown_cell hg _ _ hb]; exact h1

theorem there_alloc_new (w : World) (t : TypeId) (c : Array Value) (n : Nat) (hn : n ≤ c.size) : (w.alloc (.cells c t)).there w.heap.size 0 n := by
  intro j hj
  have e : (w.alloc (.cells c t)).heap[w.heap.size]? = some (.cells c t) := heap_alloc_new w _
  refine ⟨?_, ?_⟩
  · rw [cell_of_row _ _ _ _ _ _ e]
    simp; omega
  · exact frozen_of_row _ _ _ _ _ e

theorem there_setCell {w : World} {b o n : Nat} (h : w.there b o n) (a : Addr) (v : Value) : (w.setCell a v).there b o n := by
  intro j hj
  obtain ⟨h1, h2⟩ := h j hj
  obtain ⟨u, hu⟩ := Option.isSome_iff_exists.1 h1
  obtain ⟨v', hv'⟩ := cell?_setCell_some (p := a) (x := v) hu
  exact ⟨by rw [hv']; rfl, (World.frozen?_setCell _ _ _ _).trans h2⟩

theorem info32 : (Tryd.prog.info? 23).map (·.size) = some 32 := by kernel_rfl

theorem wpList_load32 {ops : Array Oper} {rest : List Oper} {op : Oper} {a : Act} {w : World} {Q : Exit → Act → World → Prop} (hgd : op.guard = none) (x : Operand) (ho : op.op = .load 23 x)
    (b : Nat) (hx : a.eval x = .pointer (some ⟨b, 0, none⟩)) (n : Nat) (hc : w.rangeAt b 0 (bl n))
    (h : wpList Tryd.prog ops Q rest (a.put op.dst (bv n)) w) : wpList Tryd.prog ops Q (op :: rest) a w :=
  wpList_load_mid hgd 23 x ho b 0 hx (bl n) _ hc Tryd.underlying23 rfl (by rw [bl_length]; exact info32) h

theorem wpList_store32 {ops : Array Oper} {rest : List Oper} {op : Oper} {a : Act} {w : World} {Q : Exit → Act → World → Prop} (hgd : op.guard = none) (x y : Operand) (ho : op.op = .store 23 x y)
    (b n : Nat) (hx : a.eval x = .pointer (some ⟨b, 0, none⟩)) (hy : a.eval y = bv n) (ht : w.there b 0 32)
    (h : wpList Tryd.prog ops Q rest (a.put op.dst undef) (w.setCells b 0 (bl n))) : wpList Tryd.prog ops Q (op :: rest) a w :=
  wpList_store_mid hgd 23 x y ho b 0 (bl n).toArray hx hy (by rw [List.size_toArray, bl_length]; exact ht) (by rw [List.size_toArray, bl_length]; exact info32) (all_oneCell_toArray (bl_one n)) h

theorem result32 {fn : Func} {q : Tmp} (h : fn.results = #[.cell q 23]) (tmps : Array Value) (w : World) (b n : Nat)
    (hp : tmps.getD q undef = .pointer (some ⟨b, 0, none⟩)) (hc : w.rangeAt b 0 (bl n)) : (results fn tmps).run Tryd.prog w = .ok (bv n) w := by
  have hp' : tmps[q]?.getD undef = .pointer (some ⟨b, 0, none⟩) := by simpa using hp
  simp [results, h, hp', asAddr, run_loadVar_mid w b 0 23 (bl n) _ hc Tryd.underlying23 rfl (by rw [bl_length]; exact info32), bv]

/-- how far the bytes are written -/
structure BW (w0 : World) (xb g r : Nat) (y0 y1 y2 y3 : Int) (got : List Value) (W1 : World) : Prop where
  row : Row4 W1 xb y0 y1 y2 y3
  got : W1.rangeAt g 0 got
  thg : W1.there g 0 32
  thr : W1.there r 0 32
  gx : g ≠ xb
  gr : g ≠ r
  gw : w0.heap.size ≤ g
  grown : Grown w0 W1
  fg : ∀ i, W1.frozen? ⟨g, i, none⟩ = false

theorem setCells_other {w : World} {b b' : Nat} {y0 y1 y2 y3 : Int} (h : Row4 w b' y0 y1 y2 y3) (hb : b ≠ b') (o : Nat) (vs : List Value) : Row4 (w.setCells b o vs) b' y0 y1 y2 y3 := by
  have hc : ∀ i, (w.setCells b o vs).cell? ⟨b', i, none⟩ = w.cell? ⟨b', i, none⟩ := fun i =>
    World.cell?_setCells_out b vs o w _ (fun e => absurd e.symm hb)
  exact ⟨(hc 0).trans h.c0, (hc 1).trans h.c1, (hc 2).trans h.c2, (hc 3).trans h.c3, fun i => (World.frozen?_setCells b vs o w _).trans (h.fr i)⟩

theorem BW.step {w0 W1 W2 : World} {xb g r : Nat} {y0 y1 y2 y3 : Int} {got : List Value} (h : BW w0 xb g r y0 y1 y2 y3 got W1) (o : Nat) (vs : List Value) (ho : o = got.length)
    (hl : o + vs.length ≤ 32) (e : W2 = W1.drew.setCells g o vs) : BW w0 xb g r y0 y1 y2 y3 (got ++ vs) W2 := by
  subst e
  have hrow : Row4 W1.drew xb y0 y1 y2 y3 := ⟨h.row.c0, h.row.c1, h.row.c2, h.row.c3, h.row.fr⟩
  refine ⟨setCells_other hrow h.gx o vs, ?_, World.there_setCells (w := W1.drew) h.thg g o vs, World.there_setCells (w := W1.drew) h.thr g o vs, h.gx, h.gr, h.gw, grown_setCells h.gw vs o (Grown.drew h.grown), fun i => (World.frozen?_setCells g vs o W1.drew _).trans (h.fg i)⟩
  intro j v hv
  by_cases hj : j < got.length
  · rw [List.getElem?_append_left hj] at hv
    rw [World.cell?_setCells_out g vs o W1.drew _ (fun _ _ => by left; simp; omega)]
    exact h.got j v hv
  · rw [List.getElem?_append_right (by omega)] at hv
    have hj' : j - got.length < vs.length := by
      have := List.getElem?_eq_some_iff.1 hv; exact this.1
    have hth : W1.drew.there g o vs.length := by
      intro i hi
      have := h.thg (o + i) (by omega)
      rw [Nat.zero_add] at this
      exact this
    have := World.rangeAt_setCells_same W1.drew g o vs hth (j - got.length) v hv
    have e2 : o + (j - got.length) = 0 + j := by omega
    rw [e2] at this
    exact this

/-- eight bytes of a word -/
def b8 (v : Int) : List Value := [.int .u8 (v % 256), .int .u8 (v / 256 % 256), .int .u8 (v / 65536 % 256), .int .u8 (v / 16777216 % 256), .int .u8 (v / 4294967296 % 256), .int .u8 (v / 1099511627776 % 256), .int .u8 (v / 281474976710656 % 256), .int .u8 (v / 72057594037927936 % 256)]

theorem putWord_bw {w0 W1 : World} {xb g r : Nat} {y0 y1 y2 y3 : Int} {got : List Value} (h : BW w0 xb g r y0 y1 y2 y3 got W1) (o cap : Nat) (v : Int) (ho : o = got.length) (hl : o + 8 ≤ 32) :
    Calls Tryd.prog 81 #[.slice (some ⟨g, o, none⟩) 8 cap, .int .u64 v] W1.drew fun e w' => e = .returned (.tuple #[]) ∧ BW w0 xb g r y0 y1 y2 y3 (got ++ b8 v) w' := by
  have hc : ∀ j, j < 8 → ∃ u, W1.drew.cell? ⟨g, o + j, none⟩ = some u := fun j hj => by
    have := (h.thg (o + j) (by omega)).1
    rw [Nat.zero_add] at this
    exact Option.isSome_iff_exists.1 this
  obtain ⟨u0, c0⟩ := hc 0 (by decide)
  obtain ⟨u1, c1⟩ := hc 1 (by decide)
  obtain ⟨u2, c2⟩ := hc 2 (by decide)
  obtain ⟨u3, c3⟩ := hc 3 (by decide)
  obtain ⟨u4, c4⟩ := hc 4 (by decide)
  obtain ⟨u5, c5⟩ := hc 5 (by decide)
  obtain ⟨u6, c6⟩ := hc 6 (by decide)
  obtain ⟨u7, c7⟩ := hc 7 (by decide)
  have fr : ∀ i, W1.drew.frozen? ⟨g, i, none⟩ = false := h.fg
  refine (putWord_any g o cap v W1.drew u0 u1 u2 u3 u4 u5 u6 u7 c0 c1 c2 c3 c4 c5 c6 c7 fr).mono ?_
  rintro e w' ⟨rfl, hw⟩
  exact ⟨rfl, h.step o (b8 v) ho (by simp [b8]; omega) hw⟩

theorem bl_words {y0 y1 y2 y3 : Int} (k0 : W y0) (k1 : W y1) (k2 : W y2) (_k3 : W y3) (z : Nat) (hz : (z : Int) = V y0 y1 y2 y3) : [] ++ b8 y0 ++ b8 y1 ++ b8 y2 ++ b8 y3 = bl z := by
  unfold W V at *
  simp only [bl, b8, List.nil_append, List.cons_append, List.range, List.range.loop, List.map]
  simp only [List.cons.injEq, Value.int.injEq, true_and, and_true, Nat.reducePow]
  refine ⟨?_, ?_, ?_, ?_, ?_, ?_, ?_, ?_, ?_, ?_, ?_, ?_, ?_, ?_, ?_, ?_, ?_, ?_, ?_, ?_, ?_, ?_, ?_, ?_, ?_, ?_, ?_, ?_, ?_, ?_, ?_, ?_⟩ <;> omega

set_option maxHeartbeats 1000000 in
theorem bytes_any (x0 x1 x2 x3 : Int) (h0 : W x0) (h1 : W x1) (h2 : W x2) (h3 : W x3) (w : World) :
    Calls Tryd.prog 54 #[numW x0 x1 x2 x3] w fun e w' => (∃ z : Nat, (z : Int) = V x0 x1 x2 x3 % pI ∧ e = .returned (bv z)) ∧ Grown w w' := by
  go_enter Tryd.func54, Tryd.ntmps54
  go_wp2_with fail
  refine (canonical_any x0 x1 x2 x3 h0 h1 h2 h3 _).mono ?_
  rintro e w' ⟨⟨y0, y1, y2, y3, rfl, k0, k1, k2, k3, ke⟩, hg⟩
  have hw : Grown w w' := grown_trans (by go_grown) hg
  have hc_hg := grown_cell hg
  have hf_hg := hg.2.1
  have hs_hg := hg.2.2
  simp only [World.size_alloc] at hs_hg
  have hr4 : Row4 w' w.heap.size x0 x1 x2 x3 := Row4.grown ⟨by simp [go_sem], by simp [go_sem], by simp [go_sem], by simp [go_sem], by simp [go_sem]⟩ hg
  have htr : w'.there (w.heap.size + 1) 0 32 := there_grown (by intro j hj; simp [go_sem]; omega) hg
  have B0 : BW w w.heap.size w'.heap.size (w.heap.size + 1) y0 y1 y2 y3 [] (((((w'.setCell ⟨w.heap.size, 0, none⟩ (Value.int IntKind.u64 y0)).setCell ⟨w.heap.size, 1, none⟩ (Value.int IntKind.u64 y1)).setCell ⟨w.heap.size, 2, none⟩ (Value.int IntKind.u64 y2)).setCell ⟨w.heap.size, 3, none⟩ (Value.int IntKind.u64 y3)).alloc (Obj.cells #[Value.int IntKind.u8 0, Value.int IntKind.u8 0, Value.int IntKind.u8 0, Value.int IntKind.u8 0, Value.int IntKind.u8 0, Value.int IntKind.u8 0, Value.int IntKind.u8 0, Value.int IntKind.u8 0, Value.int IntKind.u8 0, Value.int IntKind.u8 0, Value.int IntKind.u8 0, Value.int IntKind.u8 0, Value.int IntKind.u8 0, Value.int IntKind.u8 0, Value.int IntKind.u8 0, Value.int IntKind.u8 0, Value.int IntKind.u8 0, Value.int IntKind.u8 0, Value.int IntKind.u8 0, Value.int IntKind.u8 0, Value.int IntKind.u8 0, Value.int IntKind.u8 0, Value.int IntKind.u8 0, Value.int IntKind.u8 0, Value.int IntKind.u8 0, Value.int IntKind.u8 0, Value.int IntKind.u8 0, Value.int IntKind.u8 0, Value.int IntKind.u8 0, Value.int IntKind.u8 0, Value.int IntKind.u8 0, Value.int IntKind.u8 0] 23)) := by
    have hset := hr4.set y0 y1 y2 y3
    have e : (set4 w' w.heap.size y0 y1 y2 y3).heap.size = w'.heap.size := by simp
    have hn := there_alloc_new (set4 w' w.heap.size y0 y1 y2 y3) 23 #[Value.int IntKind.u8 0, Value.int IntKind.u8 0, Value.int IntKind.u8 0, Value.int IntKind.u8 0, Value.int IntKind.u8 0, Value.int IntKind.u8 0, Value.int IntKind.u8 0, Value.int IntKind.u8 0, Value.int IntKind.u8 0, Value.int IntKind.u8 0, Value.int IntKind.u8 0, Value.int IntKind.u8 0, Value.int IntKind.u8 0, Value.int IntKind.u8 0, Value.int IntKind.u8 0, Value.int IntKind.u8 0, Value.int IntKind.u8 0, Value.int IntKind.u8 0, Value.int IntKind.u8 0, Value.int IntKind.u8 0, Value.int IntKind.u8 0, Value.int IntKind.u8 0, Value.int IntKind.u8 0, Value.int IntKind.u8 0, Value.int IntKind.u8 0, Value.int IntKind.u8 0, Value.int IntKind.u8 0, Value.int IntKind.u8 0, Value.int IntKind.u8 0, Value.int IntKind.u8 0, Value.int IntKind.u8 0, Value.int IntKind.u8 0] 32 (by simp)
    have hb := heap_alloc_new (set4 w' w.heap.size y0 y1 y2 y3) (Obj.cells #[Value.int IntKind.u8 0, Value.int IntKind.u8 0, Value.int IntKind.u8 0, Value.int IntKind.u8 0, Value.int IntKind.u8 0, Value.int IntKind.u8 0, Value.int IntKind.u8 0, Value.int IntKind.u8 0, Value.int IntKind.u8 0, Value.int IntKind.u8 0, Value.int IntKind.u8 0, Value.int IntKind.u8 0, Value.int IntKind.u8 0, Value.int IntKind.u8 0, Value.int IntKind.u8 0, Value.int IntKind.u8 0, Value.int IntKind.u8 0, Value.int IntKind.u8 0, Value.int IntKind.u8 0, Value.int IntKind.u8 0, Value.int IntKind.u8 0, Value.int IntKind.u8 0, Value.int IntKind.u8 0, Value.int IntKind.u8 0, Value.int IntKind.u8 0, Value.int IntKind.u8 0, Value.int IntKind.u8 0, Value.int IntKind.u8 0, Value.int IntKind.u8 0, Value.int IntKind.u8 0, Value.int IntKind.u8 0, Value.int IntKind.u8 0] 23)
    rw [e] at hn hb
    refine ⟨Row4.grown hset (Grown.alloc (Grown.refl _) _ _), ?_, hn, there_grown (there_setCell (there_setCell (there_setCell (there_setCell htr _ _) _ _) _ _) _ _) (Grown.alloc (Grown.refl _) _ _), by omega, by omega, by omega, by go_grown, fun i => frozen_of_row _ _ _ _ _ hb⟩
    intro j v hv
    simp at hv
  go_wp2_with fail
  clear hc_hg hf_hg hg hr4 htr
  generalize (((((w'.setCell ⟨w.heap.size, 0, none⟩ (Value.int IntKind.u64 y0)).setCell ⟨w.heap.size, 1, none⟩ (Value.int IntKind.u64 y1)).setCell ⟨w.heap.size, 2, none⟩ (Value.int IntKind.u64 y2)).setCell ⟨w.heap.size, 3, none⟩ (Value.int IntKind.u64 y3)).alloc (Obj.cells #[Value.int IntKind.u8 0, Value.int IntKind.u8 0, Value.int IntKind.u8 0, Value.int IntKind.u8 0, Value.int IntKind.u8 0, Value.int IntKind.u8 0, Value.int IntKind.u8 0, Value.int IntKind.u8 0, Value.int IntKind.u8 0, Value.int IntKind.u8 0, Value.int IntKind.u8 0, Value.int IntKind.u8 0, Value.int IntKind.u8 0, Value.int IntKind.u8 0, Value.int IntKind.u8 0, Value.int IntKind.u8 0, Value.int IntKind.u8 0, Value.int IntKind.u8 0, Value.int IntKind.u8 0, Value.int IntKind.u8 0, Value.int IntKind.u8 0, Value.int IntKind.u8 0, Value.int IntKind.u8 0, Value.int IntKind.u8 0, Value.int IntKind.u8 0, Value.int IntKind.u8 0, Value.int IntKind.u8 0, Value.int IntKind.u8 0, Value.int IntKind.u8 0, Value.int IntKind.u8 0, Value.int IntKind.u8 0, Value.int IntKind.u8 0] 23)) = W1 at B0 ⊢
  go_region_held3 (fun w2 => w2.cell? ⟨w.heap.size, 0, none⟩ = some (.int .u64 y0)) (first | exact B0.row.c0 | exact B1.row.c0)
    (first | (go_at_call 81; refine Calls.mono (putWord_bw B0 0 _ y0 (by simp) (by decide)) ?_; rintro e w2 ⟨rfl, B1⟩))
  go_wp2_with fail
  go_region_held3 (fun w2 => w2.cell? ⟨w.heap.size, 1, none⟩ = some (.int .u64 y1)) (first | exact B1.row.c1 | exact B2.row.c1)
    (first | (go_at_call 81; refine Calls.mono (putWord_bw B1 8 _ y1 (by simp [b8]) (by decide)) ?_; rintro e w3 ⟨rfl, B2⟩))
  go_wp2_with fail
  go_region_held3 (fun w2 => w2.cell? ⟨w.heap.size, 2, none⟩ = some (.int .u64 y2)) (first | exact B2.row.c2 | exact B3.row.c2)
    (first | (go_at_call 81; refine Calls.mono (putWord_bw B2 16 _ y2 (by simp [b8]) (by decide)) ?_; rintro e w4 ⟨rfl, B3⟩))
  go_wp2_with fail
  go_region_held3 (fun w2 => w2.cell? ⟨w.heap.size, 3, none⟩ = some (.int .u64 y3)) (first | exact B3.row.c3 | exact B4.row.c3)
    (first | (go_at_call 81; refine Calls.mono (putWord_bw B3 24 _ y3 (by simp [b8]) (by decide)) ?_; rintro e w5 ⟨rfl, B4⟩))
  obtain ⟨z, hz⟩ : ∃ z : Nat, (z : Int) = V y0 y1 y2 y3 := ⟨(V y0 y1 y2 y3).toNat, by have := V_nonneg k0 k1 k2 k3; omega⟩
  have hgot := B4.got
  rw [bl_words k0 k1 k2 k3 z hz] at hgot
  have hthr := B4.thr
  have hgw := B4.grown
  clear B0 B1 B2 B3 B4
  go_step
  go_step
  go_step
  apply wp_region_lit
  refine wpList_load32 rfl _ rfl _ rfl z hgot ?_
  simp only [Act.put, List.setIfInBounds_toArray, List.set_cons_zero, List.set_cons_succ]
  refine wpList_store32 rfl _ _ rfl _ z rfl rfl hthr ?_
  simp only [Act.put]
  apply wpList_nil
  repeat go_step
  refine bodyPost_ret (v := bv z) (result32 Tryd.results54 _ _ (w.heap.size + 1) z ?hp (World.rangeAt_setCells_same _ _ _ _ (by rw [bl_length]; exact hthr))) ?hd ?_
  case hp => rfl
  case hd => rfl
  exact ⟨⟨z, hz.trans ke, rfl⟩, grown_setCells (by omega) _ _ hgw⟩
end Go.Proofs.YtkegcilcapnpdaaDoor

namespace Go.Proofs.YtkegcilcapnpdaaDoor
open Go.RowKit Go.Shelf FieldNum

/-- 2^256 -/
abbrev M : Nat := 115792089237316195423570985008687907853269984665640564039457584007913129639936

/-- a number of the program -/
def numV (x : Nat) : Value := numW ((x / 256 ^ 0 % 18446744073709551616 : Nat) : Int) ((x / 256 ^ 8 % 18446744073709551616 : Nat) : Int) ((x / 256 ^ 16 % 18446744073709551616 : Nat) : Int) ((x / 256 ^ 24 % 18446744073709551616 : Nat) : Int)

theorem words_of_num (x : Nat) (hx : x < M) : ∃ x0 x1 x2 x3 : Int, numV x = numW x0 x1 x2 x3 ∧ W x0 ∧ W x1 ∧ W x2 ∧ W x3 ∧ V x0 x1 x2 x3 = (x : Int) := by
  refine ⟨_, _, _, _, rfl, ?_⟩
  unfold W V M at *
  simp only [Nat.reducePow]
  omega

theorem num_of_words {z0 z1 z2 z3 : Int} (k0 : W z0) (k1 : W z1) (k2 : W z2) (k3 : W z3) : ∃ z : Nat, z < M ∧ numW z0 z1 z2 z3 = numV z ∧ (z : Int) = V z0 z1 z2 z3 := by
  have h1 := V_nonneg k0 k1 k2 k3
  have h2 := V_lt k0 k1 k2 k3
  refine ⟨(V z0 z1 z2 z3).toNat, by unfold M; omega, ?_, by omega⟩
  obtain ⟨z, hz⟩ : ∃ z : Nat, (z : Int) = V z0 z1 z2 z3 := ⟨(V z0 z1 z2 z3).toNat, by omega⟩
  have hz' : (V z0 z1 z2 z3).toNat = z := by omega
  rw [hz']
  unfold V W at *
  have e0 : ((z / 256 ^ 0 % 18446744073709551616 : Nat) : Int) = z0 := by simp only [Nat.reducePow]; omega
  have e1 : ((z / 256 ^ 8 % 18446744073709551616 : Nat) : Int) = z1 := by simp only [Nat.reducePow]; omega
  have e2 : ((z / 256 ^ 16 % 18446744073709551616 : Nat) : Int) = z2 := by simp only [Nat.reducePow]; omega
  have e3 : ((z / 256 ^ 24 % 18446744073709551616 : Nat) : Int) = z3 := by simp only [Nat.reducePow]; omega
  unfold numV
  rw [e0, e1, e2, e3]

theorem modN {z x : Nat} (h : (z : Int) % pI = (x : Int) % pI) : z % p = x % p := by
  have hp : pI = ((p : Nat) : Int) := rfl
  rw [hp] at h
  omega

theorem load_num (x : Nat) (w : World) : Calls Tryd.prog 50 #[bv x] w fun e w' => e = .returned (numV x) ∧ Grown w w' := load_any x w

theorem times_num (x y : Nat) (hx : x < M) (hy : y < M) (w : World) :
    Calls Tryd.prog 52 #[numV x, numV y] w fun e w' => (∃ z, e = .returned (numV z) ∧ z < M ∧ z % p = x * y % p) ∧ Grown w w' := by
  obtain ⟨x0, x1, x2, x3, e, a0, a1, a2, a3, ev⟩ := words_of_num x hx
  obtain ⟨y0, y1, y2, y3, e', b0, b1, b2, b3, ev'⟩ := words_of_num y hy
  rw [e, e']
  refine (times_any x0 x1 x2 x3 y0 y1 y2 y3 a0 a1 a2 a3 b0 b1 b2 b3 w).mono ?_
  rintro e w' ⟨⟨z0, z1, z2, z3, rfl, k0, k1, k2, k3, ke⟩, hg⟩
  obtain ⟨z, hz, ez, vz⟩ := num_of_words k0 k1 k2 k3
  refine ⟨⟨z, by rw [ez], hz, modN ?_⟩, hg⟩
  rw [vz, ke, ev, ev']; simp

theorem plus_num (x y : Nat) (hx : x < M) (hy : y < M) (w : World) :
    Calls Tryd.prog 60 #[numV x, numV y] w fun e w' => (∃ z, e = .returned (numV z) ∧ z < M ∧ z % p = (x + y) % p) ∧ Grown w w' := by
  obtain ⟨x0, x1, x2, x3, e, a0, a1, a2, a3, ev⟩ := words_of_num x hx
  obtain ⟨y0, y1, y2, y3, e', b0, b1, b2, b3, ev'⟩ := words_of_num y hy
  rw [e, e']
  refine (plus_any x0 x1 x2 x3 y0 y1 y2 y3 a0 a1 a2 a3 b0 b1 b2 b3 w).mono ?_
  rintro e w' ⟨⟨z0, z1, z2, z3, rfl, k0, k1, k2, k3, ke⟩, hg⟩
  obtain ⟨z, hz, ez, vz⟩ := num_of_words k0 k1 k2 k3
  refine ⟨⟨z, by rw [ez], hz, modN ?_⟩, hg⟩
  rw [vz, ke, ev, ev']; simp

theorem minus_num (x y : Nat) (hx : x < M) (hy : y < M) (w : World) :
    Calls Tryd.prog 65 #[numV x, numV y] w fun e w' => (∃ z, e = .returned (numV z) ∧ z < M ∧ z % p = sb x y) ∧ Grown w w' := by
  obtain ⟨x0, x1, x2, x3, e, a0, a1, a2, a3, ev⟩ := words_of_num x hx
  obtain ⟨y0, y1, y2, y3, e', b0, b1, b2, b3, ev'⟩ := words_of_num y hy
  rw [e, e']
  refine (minus_any x0 x1 x2 x3 y0 y1 y2 y3 a0 a1 a2 a3 b0 b1 b2 b3 w).mono ?_
  rintro e w' ⟨⟨z0, z1, z2, z3, rfl, k0, k1, k2, k3, ke⟩, hg⟩
  obtain ⟨z, hz, ez, vz⟩ := num_of_words k0 k1 k2 k3
  refine ⟨⟨z, by rw [ez], hz, sb_uniq (Nat.mod_lt _ p_pos) ?_⟩, hg⟩
  rw [Nat.mod_add_mod]
  apply modN
  rw [← ev, ← ke, ← vz, ev']; simp

theorem negated_num (x : Nat) (hx : x < M) (w : World) :
    Calls Tryd.prog 57 #[numV x] w fun e w' => (∃ z, e = .returned (numV z) ∧ z < M ∧ z % p = ng x) ∧ Grown w w' := by
  obtain ⟨x0, x1, x2, x3, e, a0, a1, a2, a3, ev⟩ := words_of_num x hx
  rw [e]
  refine (negated_any x0 x1 x2 x3 a0 a1 a2 a3 w).mono ?_
  rintro e w' ⟨⟨z0, z1, z2, z3, rfl, k0, k1, k2, k3, ke⟩, hg⟩
  obtain ⟨z, hz, ez, vz⟩ := num_of_words k0 k1 k2 k3
  refine ⟨⟨z, by rw [ez], hz, sb_uniq (Nat.mod_lt _ p_pos) ?_⟩, hg⟩
  rw [Nat.mod_add_mod]
  apply modN
  have : (V 0 0 0 0 : Int) = ((0 : Nat) : Int) := by decide
  rw [← vz, ev, this] at ke
  simpa using ke

theorem squared_num (x : Nat) (n : Nat) (hx : x < M) (hn : n ≤ 1000) (w : World) :
    Calls Tryd.prog 58 #[numV x, .int .i64 n] w fun e w' => (∃ z, e = .returned (numV z) ∧ z < M ∧ z % p = x ^ (2 ^ n) % p) ∧ Grown w w' := by
  obtain ⟨x0, x1, x2, x3, e, a0, a1, a2, a3, ev⟩ := words_of_num x hx
  rw [e]
  refine (squared_any x0 x1 x2 x3 n a0 a1 a2 a3 (by omega) (by omega) w).mono ?_
  rintro e w' ⟨⟨z0, z1, z2, z3, rfl, k0, k1, k2, k3, ke⟩, hg⟩
  obtain ⟨z, hz, ez, vz⟩ := num_of_words k0 k1 k2 k3
  refine ⟨⟨z, by rw [ez], hz, modN ?_⟩, hg⟩
  rw [vz, ke, ev]; simp

theorem canonical_num (x : Nat) (hx : x < M) (w : World) :
    Calls Tryd.prog 59 #[numV x] w fun e w' => e = .returned (numV (x % p)) ∧ Grown w w' := by
  obtain ⟨x0, x1, x2, x3, e, a0, a1, a2, a3, ev⟩ := words_of_num x hx
  rw [e]
  refine (canonical_any x0 x1 x2 x3 a0 a1 a2 a3 w).mono ?_
  rintro e w' ⟨⟨z0, z1, z2, z3, rfl, k0, k1, k2, k3, ke⟩, hg⟩
  obtain ⟨z, hz, ez, vz⟩ := num_of_words k0 k1 k2 k3
  have : z = x % p := by
    have hp : pI = ((p : Nat) : Int) := rfl
    rw [ev, ← vz, hp] at ke
    omega
  refine ⟨?_, hg⟩
  rw [← this, ← ez]

theorem bytes_num (x : Nat) (hx : x < M) (w : World) :
    Calls Tryd.prog 54 #[numV x] w fun e w' => e = .returned (bv (x % p)) ∧ Grown w w' := by
  obtain ⟨x0, x1, x2, x3, e, a0, a1, a2, a3, ev⟩ := words_of_num x hx
  rw [e]
  refine (bytes_any x0 x1 x2 x3 a0 a1 a2 a3 w).mono ?_
  rintro e w' ⟨⟨z, ke, rfl⟩, hg⟩
  have : z = x % p := by
    have hp : pI = ((p : Nat) : Int) := rfl
    rw [ev, hp] at ke
    omega
  rw [this]
  exact ⟨rfl, hg⟩
end Go.Proofs.YtkegcilcapnpdaaDoor

namespace Go.Proofs.YtkegcilcapnpdaaDoor
open Go.RowKit Go.Shelf FieldNum

section
variable {ops : Array Oper} {Q : Exit → Act → World → Prop} {md : Region.Mode} {S : World → Prop} {fuel : Nat} {listed : Array Bool} {a : Act} {w : World}

/-- a load of 32 bytes is taken first -/
theorem take32 (i : Nat) (n b : Nat) {oi : Oper} (hi : ops.toList[i]? = some oi) (hs : Region.noSelect ops = true) (hf : Region.free md ops listed i = true) (hr : (Region.ready md ops listed).contains i = true)
    (hQ : ∀ c a w, Q (.panic c) (a.put oi.dst (bv n)) w → Q (.panic c) a w) (hw : Region.wanted oi (yielded ops a.tmps) = true) {x : Operand} (ho : oi.op = .load 23 x)
    (hx : a.eval x = .pointer (some ⟨b, 0, none⟩)) (hS : ∀ w, S w → w.rangeAt b 0 (bl n)) (hSw : S w)
    (h : wpAnyH Tryd.prog md ops Q S fuel (listed.setIfInBounds i true) (a.put oi.dst (bv n)) w) : wpAnyH Tryd.prog md ops Q S (fuel + 1) listed a w :=
  wpAnyH_take (i := i) (oi := oi) (v := bv n) (by rw [← Array.getElem?_toList]; exact hi) hs hf hr hQ
    (yieldsIf_load_mid hw 23 x ho b 0 hx (bl n) _ hS Tryd.underlying23 rfl (by rw [bl_length]; exact info32)) hSw h

/-- one operation alone may come up -/
theorem step1 (i : Nat) {o : Oper} (hr : Region.ready md ops listed = [i]) (hi : ops.toList[i]? = some o)
    (h : ∀ K' : Act → World → Prop, Shut (∀ a w, S w → (S w → wpAnyH Tryd.prog md ops Q S fuel (listed.setIfInBounds i true) a w) → K' a w) → if Region.wanted o (yielded ops a.tmps) = true then Oper.wp Tryd.prog o a w K' Q else K' (a.put o.dst undef) w) :
    wpAnyH Tryd.prog md ops Q S (fuel + 1) listed a w :=
  wpAnyH_ready hr (by simp) (AllReadyH.cons (by rw [← Array.getElem?_toList]; exact hi) h AllReadyH.nil)

/-- a store of 32 bytes -/
theorem store32 {o : Oper} {K : Act → World → Prop} (n b : Nat) {x y : Operand} (ho : o.op = .store 23 x y) (hw : Region.wanted o (yielded ops a.tmps) = true)
    (hx : a.eval x = .pointer (some ⟨b, 0, none⟩)) (hy : a.eval y = bv n) (ht : w.there b 0 32) (h : K (a.put o.dst undef) (w.setCells b 0 (bl n))) :
    if Region.wanted o (yielded ops a.tmps) = true then Oper.wp Tryd.prog o a w K Q else K (a.put o.dst undef) w := by
  rw [if_pos hw]
  exact wp_store_mid 23 x y ho b 0 (bl n).toArray hx hy (by rw [List.size_toArray, bl_length]; exact ht) (by rw [List.size_toArray, bl_length]; exact info32) (all_oneCell_toArray (bl_one n)) h
end

theorem keep3 {W w1 w2 : World} {b1 b2 b3 : Nat} {xs ys : List Value} (h : w1.rangeAt b1 0 xs ∧ w1.rangeAt b2 0 ys ∧ w1.there b3 0 32 ∧ Grown W w1) (hg : Grown w1 w2) :
    w2.rangeAt b1 0 xs ∧ w2.rangeAt b2 0 ys ∧ w2.there b3 0 32 ∧ Grown W w2 :=
  ⟨rangeAt_grown h.1 hg, rangeAt_grown h.2.1 hg, there_grown h.2.2.1 hg, grown_trans h.2.2.2 hg⟩

theorem rangeAt_alloc_new (w : World) (t : TypeId) (cs : List Value) : (w.alloc (.cells cs.toArray t)).rangeAt w.heap.size 0 cs := by
  intro j v hv
  have e : (w.alloc (.cells cs.toArray t)).heap[w.heap.size]? = some (.cells cs.toArray t) := heap_alloc_new w _
  rw [cell_of_row _ _ _ _ _ _ e, Nat.zero_add]
  simpa using hv

theorem start3 (w : World) (xs ys : List Value) (c : Array Value) (hc : 32 ≤ c.size) :
    (((w.alloc (.cells xs.toArray 23)).alloc (.cells ys.toArray 23)).alloc (.cells c 23)).drew.rangeAt w.heap.size 0 xs ∧
    (((w.alloc (.cells xs.toArray 23)).alloc (.cells ys.toArray 23)).alloc (.cells c 23)).drew.rangeAt (w.heap.size + 1) 0 ys ∧
    (((w.alloc (.cells xs.toArray 23)).alloc (.cells ys.toArray 23)).alloc (.cells c 23)).drew.there (w.heap.size + 1 + 1) 0 32 ∧
    Grown w (((w.alloc (.cells xs.toArray 23)).alloc (.cells ys.toArray 23)).alloc (.cells c 23)).drew := by
  have g1 : ∀ (w : World) (a : Array Value), Grown w (w.alloc (.cells a 23)) := fun w a => Grown.alloc (Grown.refl _) _ _
  have s1 : (w.alloc (.cells xs.toArray 23)).heap.size = w.heap.size + 1 := by simp
  have s2 : ((w.alloc (.cells xs.toArray 23)).alloc (.cells ys.toArray 23)).heap.size = w.heap.size + 1 + 1 := by simp
  have r1 := rangeAt_grown (rangeAt_grown (rangeAt_alloc_new w 23 xs) (g1 _ ys.toArray)) (g1 _ c)
  have r2 := rangeAt_grown (rangeAt_alloc_new (w.alloc (.cells xs.toArray 23)) 23 ys) (g1 _ c)
  have r3 := there_alloc_new ((w.alloc (.cells xs.toArray 23)).alloc (.cells ys.toArray 23)) 23 c 32 hc
  rw [s1] at r2
  rw [s2] at r3
  exact ⟨r1, r2, r3, by go_grown⟩
end Go.Proofs.YtkegcilcapnpdaaDoor
