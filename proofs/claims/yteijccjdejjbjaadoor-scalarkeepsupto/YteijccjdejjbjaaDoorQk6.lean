import Derived.Test.YteijccjdejjbjaaDoorQk5
import Derived.RangeFuncNested
import Derived.RangeFuncBound
import Derived.RangeFuncCalls
import Derived.RangeFuncLeaves
import Derived.RangeFuncWrites
import Derived.OwnWalkIn
import Derived.TacticsInMore
import Derived.LoopNIn
import Derived.LoopIn
namespace Go.Proofs.YteijccjdejjbjaaDoor
open Go.RowKit Go.Shelf ScalarNum

theorem one_byte : st 256 0 0 1 = 1 := by decide +kernel
/-- what IsInverse's variables hold -/
structure IY (w wr : World) (a x : Nat) : Prop where
  ra : wr.rangeAt w.heap.size 0 (yl 32 a)
  rx : wr.rangeAt (w.heap.size + 1) 0 (yl 32 x)
  rz : wr.rangeAt (w.heap.size + 1 + 1) 0 (yl 32 0)
  gw : Grown w wr
theorem IY.grown {w wr w2 : World} {a x : Nat} (h : IY w wr a x) (g : Grown wr w2) : IY w w2 a x := ⟨rangeAt_grown h.ra g, rangeAt_grown h.rx g, rangeAt_grown h.rz g, grown_trans h.gw g⟩
theorem IY.drew {w wr : World} {a x : Nat} (h : IY w wr a x) : IY w wr.drew a x := ⟨h.ra, h.rx, h.rz, h.gw⟩

theorem ix_new (w : World) (a x : Nat) : IY w (((w.alloc (.cells (yl 32 a).toArray 23)).alloc (.cells (yl 32 x).toArray 23)).alloc (.cells (yl 32 0).toArray 23)) a x := by
  obtain ⟨r1, r2, _, g⟩ := alloc3b w 23 (yl 32 a) (yl 32 x) (yl 32 0).toArray
  refine ⟨r1, r2, ?_, g⟩
  have := rangeAt_alloc_new ((w.alloc (.cells (yl 32 a).toArray 23)).alloc (.cells (yl 32 x).toArray 23)) 23 (yl 32 0)
  rwa [show ((w.alloc (.cells (yl 32 a).toArray 23)).alloc (.cells (yl 32 x).toArray 23)).heap.size = w.heap.size + 1 + 1 by simp] at this
set_option maxRecDepth 100000 in
set_option maxHeartbeats 2000000 in
theorem isInverse_num (a : Nat) (ha : a < M) (w : World) (hO : w.rangeAt 1 0 (yl 32 L)) : Calls Tryd.prog 55 #[yv 32 a, yv 32 (sinv a)] w fun e w' => e = .returned (.bool true) ∧ Grown w w' := by
  have h0 := ix_new w a (sinv a)
  have HO := Hid.of hO
  have hxM := sinv_lt a
  have HX0 := Hid.of (fun h : sred a = 0 => sinv_zero h)
  have HX1 := Hid.of (fun h : ¬ sred a = 0 => mul_sinv h)
  have HXL := Hid.of (sinv_ltL a)
  have hr : a % L = sred a := rfl
  generalize sinv a = x at *
  clear hO
  rw [yv, yv]
  go_enter Tryd.func55, Tryd.ntmps55
  go_wp2
  rw [← yl32_zero]
  generalize (((w.alloc (.cells (yl 32 a).toArray 23)).alloc (.cells (yl 32 x).toArray 23)).alloc (.cells (yl 32 0).toArray 23)) = W0 at *
  refine wp_region_noPanic ?_
  refine wp_region_held_drew (S := fun w' => IY w w' a x) (by kernel_rfl) h0.drew (fun hH => ?_)
  clear h0
  refine take32 0 (a) (w.heap.size) rfl (by kernel_rfl) (by kernel_rfl) (by kernel_rfl) (fun _ _ _ h => h) (by rfl) rfl rfl (fun _ h => h.ra) hH ?_
  simp only [Act.put, List.setIfInBounds_toArray, List.set_cons_zero, List.set_cons_succ]
  refine take32 3 (0) (w.heap.size + 1 + 1) rfl (by kernel_rfl) (by kernel_rfl) (by kernel_rfl) (fun _ _ _ h => h) (by rfl) rfl rfl (fun _ h => h.rz) hH ?_
  simp only [Act.put, List.setIfInBounds_toArray, List.set_cons_zero, List.set_cons_succ]
  refine step1 1 (by kernel_rfl) rfl (fun K hK => ?_)
  go_simp
  refine Calls.mono (list_num a _) ?_
  rintro e w1 ⟨⟨v1, rfl, hs1⟩, hg1⟩
  dsimp only
  refine hK.out _ _ (hH.grown hg1) (fun hH => ?_)
  clear hK K
  obtain ⟨g1, c1, rfl, r1⟩ := hs1
  refine step1 2 (by kernel_rfl) rfl (fun K hK => ?_)
  go_simp
  refine Calls.mono (rest_num g1 32 a c1 (by decide) (by rw [← M_pow]; exact ha) _ r1 (rangeAt_grown HO.out hH.gw)) ?_
  rintro e w2 ⟨rfl, hg2⟩
  dsimp only
  refine hK.out _ _ (hH.grown hg2) (fun hH => ?_)
  clear hK K
  rw [hr]
  by_cases hz : sred a = 0
  · have hx0 := HX0.out hz
    subst hx0
    refine takeV 4 (.bool true) rfl (by kernel_rfl) (by kernel_rfl) (by kernel_rfl) (fun _ _ _ h => h) (by rfl) (fun w _ => exec_eql_same rfl (sred a) 0 rfl rfl (sred_lt _) (by decide) hz w) hH ?_
    simp only [Act.put, List.setIfInBounds_toArray, List.set_cons_zero, List.set_cons_succ]
    refine wpAnyH_done (by kernel_rfl) ?_ _
    refine NoPanic.normal ?_
    have HH := Hid.of hH
    clear hH
    go_wp2_with (with_reducible show wpList _ _ _ ({ dst := _, op := Op.load 23 _, type := _, pos := _, after := _, guard := _ } :: _) _ _; refine Shut.out ?_)
    show wpList _ _ _ _ _ _
    refine wpList_load32 rfl _ rfl (w.heap.size + 1) rfl 0 HH.out.rx ?_
    simp only [Act.put, List.setIfInBounds_toArray, List.set_cons_zero, List.set_cons_succ]
    refine wpList_load32 rfl _ rfl (w.heap.size + 1 + 1) rfl 0 HH.out.rz ?_
    simp only [Act.put, List.setIfInBounds_toArray, List.set_cons_zero, List.set_cons_succ]
    refine wpList_val (.bool true) rfl (exec_eql_same rfl 0 0 rfl rfl (by decide) (by decide) rfl _) ?_
    simp only [Act.put, List.setIfInBounds_toArray, List.set_cons_zero, List.set_cons_succ]
    go_wp2
    go_ret
    exact ⟨rfl, HH.out.gw⟩
  · have hx1 := Hid.of (HX1.out hz)
    refine takeV 4 (.bool false) rfl (by kernel_rfl) (by kernel_rfl) (by kernel_rfl) (fun _ _ _ h => h) (by rfl) (fun w _ => exec_eql_apart rfl (sred a) 0 rfl rfl (sred_lt _) (by decide) hz w) hH ?_
    simp only [Act.put, List.setIfInBounds_toArray, List.set_cons_zero, List.set_cons_succ]
    refine wpAnyH_done (by kernel_rfl) ?_ _
    refine NoPanic.normal ?_
    have HH := Hid.of hH
    clear hH hr hz HX0 HX1
    go_wp2_with (with_reducible show wpList _ _ _ ({ dst := _, op := Op.load 23 _, type := _, pos := _, after := _, guard := _ } :: _) _ _; refine Shut.out ?_)
    show wpList _ _ _ _ _ _
    refine wpList_load32 rfl _ rfl (w.heap.size + 1 + 1) rfl 0 HH.out.rz ?_
    simp only [Act.put, List.setIfInBounds_toArray, List.set_cons_zero, List.set_cons_succ]
    go_wp2_with (with_reducible show wpList _ _ _ ({ dst := _, op := Op.store 23 _ _, type := _, pos := _, after := _, guard := _ } :: _) _ _; refine Shut.out ?_)
    show wpList _ _ _ _ _ _
    refine wpList_store_new 0 (by simp) rfl rfl rfl rfl (fun W1 hg1 hr1 ht1 => ?_)
    simp only [Act.put]
    have hb := range_lt HH.out.rz (by rw [yl_length]; decide)
    have H1 := Hid.of (HH.out.grown hg1)
    clear HH hg1
    generalize w2.heap.size = b6 at *
    apply wpList_nil
    have d0 : W1.cell? ⟨b6, 0, none⟩ = some (.int .u8 (dg 256 0 0 : Nat)) := hr1 0 _ (yl_get 32 0 0 (by decide))
    have f0 : W1.frozen? ⟨b6, 0, none⟩ = false := (ht1 0 (by decide)).2
    have hs : (W1.setCell ⟨b6, 0, none⟩ (.int .u8 ((1 : Nat) : Int))).rangeAt b6 0 (yl 32 1) := by
      have := yrange_set hr1 (k := 0) (z := 1) (by decide) (by decide)
      rwa [one_byte] at this
    have H2 : Hid (IY w (W1.setCell ⟨b6, 0, none⟩ (.int .u8 1)) a x ∧ (W1.setCell ⟨b6, 0, none⟩ (.int .u8 1)).rangeAt b6 0 (yl 32 1)) :=
      ⟨⟨World.rangeAt_setCells_apart H1.out.ra b6 0 [.int .u8 1] (.inl (by omega)), World.rangeAt_setCells_apart H1.out.rx b6 0 [.int .u8 1] (.inl (by omega)), World.rangeAt_setCells_apart H1.out.rz b6 0 [.int .u8 1] (.inl (by omega)), Grown.setCell H1.out.gw (a := ⟨b6, 0, none⟩) (by show w.heap.size ≤ b6; omega) _⟩, hs⟩
    clear hs H1 hr1 ht1
    go_wp2
    generalize (W1.setCell ⟨b6, 0, none⟩ (.int .u8 1)) = W2 at *
    refine wp_region_noPanic ?_
    refine wp_region_held_drew (S := fun w' => IY w w' a x ∧ w'.rangeAt b6 0 (yl 32 1)) (by kernel_rfl) ⟨H2.out.1.drew, H2.out.2⟩ (fun hH => ?_)
    clear H2
    refine take32 0 (x) (w.heap.size + 1) rfl (by kernel_rfl) (by kernel_rfl) (by kernel_rfl) (fun _ _ _ h => h) (by rfl) rfl rfl (fun _ h => h.1.rx) hH ?_
    simp only [Act.put, List.setIfInBounds_toArray, List.set_cons_zero, List.set_cons_succ]
    refine step1 1 (by kernel_rfl) rfl (fun K hK => ?_)
    go_simp
    refine Calls.mono (refCanonical_num x hxM _ (rangeAt_grown HO.out hH.1.gw)) ?_
    rintro e w3 ⟨rfl, hg⟩
    rw [show decide (x < L) = true from decide_eq_true HXL.out]
    dsimp only
    refine hK.out _ _ ⟨hH.1.grown hg, rangeAt_grown hH.2 hg⟩ (fun hH => ?_)
    clear hK K
    refine takeV 2 (.bool true) rfl (by kernel_rfl) (by kernel_rfl) (by kernel_rfl) (fun _ _ _ h => h) (by rfl) (fun w _ => by first | rfl | (go_simp; done)) hH ?_
    simp only [Act.put, List.setIfInBounds_toArray, List.set_cons_zero, List.set_cons_succ]
    refine take32 3 (a) (w.heap.size) rfl (by kernel_rfl) (by kernel_rfl) (by kernel_rfl) (fun _ _ _ h => h) (by rfl) rfl rfl (fun _ h => h.1.ra) hH ?_
    simp only [Act.put, List.setIfInBounds_toArray, List.set_cons_zero, List.set_cons_succ]
    refine take32 4 (x) (w.heap.size + 1) rfl (by kernel_rfl) (by kernel_rfl) (by kernel_rfl) (fun _ _ _ h => h) (by rfl) rfl rfl (fun _ h => h.1.rx) hH ?_
    simp only [Act.put, List.setIfInBounds_toArray, List.set_cons_zero, List.set_cons_succ]
    refine take32 5 (0) (w.heap.size + 1 + 1) rfl (by kernel_rfl) (by kernel_rfl) (by kernel_rfl) (fun _ _ _ h => h) (by rfl) rfl rfl (fun _ h => h.1.rz) hH ?_
    simp only [Act.put, List.setIfInBounds_toArray, List.set_cons_zero, List.set_cons_succ]
    refine take32 7 (1) (b6) rfl (by kernel_rfl) (by kernel_rfl) (by kernel_rfl) (fun _ _ _ h => h) (by rfl) rfl rfl (fun _ h => h.2) hH ?_
    simp only [Act.put, List.setIfInBounds_toArray, List.set_cons_zero, List.set_cons_succ]
    refine step1 6 (by kernel_rfl) rfl (fun K hK => ?_)
    rw [if_pos (by rfl)]
    go_simp
    refine Calls.mono (refMulAdd_num a x 0 ha hxM (by decide) _ (rangeAt_grown HO.out hH.1.gw)) ?_
    rintro e w4 ⟨rfl, hg⟩
    rw [hx1.out]
    dsimp only
    refine hK.out _ _ ⟨hH.1.grown hg, rangeAt_grown hH.2 hg⟩ (fun hH => ?_)
    clear hK K
    refine takeV 8 (.bool true) rfl (by kernel_rfl) (by kernel_rfl) (by kernel_rfl) (fun _ _ _ h => h) (by rfl) (fun w _ => exec_eql_same rfl 1 1 rfl rfl (by decide) (by decide) rfl w) hH ?_
    simp only [Act.put, List.setIfInBounds_toArray, List.set_cons_zero, List.set_cons_succ]
    refine takeV 9 (.bool true) rfl (by kernel_rfl) (by kernel_rfl) (by kernel_rfl) (fun _ _ _ h => h) (by rfl) (fun w _ => by first | rfl | (go_simp; done)) hH ?_
    simp only [Act.put, List.setIfInBounds_toArray, List.set_cons_zero, List.set_cons_succ]
    refine takeV 10 (.bool true) rfl (by kernel_rfl) (by kernel_rfl) (by kernel_rfl) (fun _ _ _ h => h) (by rfl) (fun w _ => by first | rfl | (go_simp; done)) hH ?_
    simp only [Act.put, List.setIfInBounds_toArray, List.set_cons_zero, List.set_cons_succ]
    refine wpAnyH_done (by kernel_rfl) ?_ _
    refine NoPanic.normal ?_
    repeat go_step
    go_ret
    exact ⟨rfl, hH.1.gw⟩
end Go.Proofs.YteijccjdejjbjaaDoor
namespace Go.Proofs.YteijccjdejjbjaaDoor
open Go.RowKit Go.Shelf ScalarNum

/-- what lay stays as it lay -/
def Lain (W w' : World) : Prop := w'.os = W.os ∧ w'.output = W.output ∧ W.heap.size ≤ w'.heap.size ∧ ∀ k, k < W.heap.size → w'.heap[k]? = W.heap[k]?

theorem Lain.refl (W : World) : Lain W W := ⟨rfl, rfl, Nat.le_refl _, fun _ _ => rfl⟩
theorem Lain.trans {a b c : World} (h : Lain a b) (k : Lain b c) : Lain a c :=
  ⟨k.1.trans h.1, k.2.1.trans h.2.1, Nat.le_trans h.2.2.1 k.2.2.1, fun i hi => (k.2.2.2 i (Nat.lt_of_lt_of_le hi h.2.2.1)).trans (h.2.2.2 i hi)⟩
theorem Lain.of {W w' : World} (h : Grown W w') : Lain W w' := ⟨h.1.1, h.1.2.1, h.2.2, fun _ hk => grown_block h hk⟩
theorem Lain.cell {W w' : World} (h : Lain W w') {n : Nat} (i : Nat) (hn : n < W.heap.size) : w'.cell? ⟨n, i, none⟩ = W.cell? ⟨n, i, none⟩ := World.cell?_of_block (w := W) (h.2.2.2 n hn)
theorem Lain.range {w w' : World} {b o : Nat} {cs : List Value} (hg : Lain w w') (h : w.rangeAt b o cs) : w'.rangeAt b o cs := by
  intro j v hv
  have h1 := h j v hv
  rw [hg.cell _ (block_lt_of_cell h1)]; exact h1
theorem Lain.there {w w' : World} {b o n : Nat} (hg : Lain w w') (h : w.there b o n) : w'.there b o n := by
  intro j hj
  obtain ⟨h1, h2⟩ := h j hj
  obtain ⟨v, hv⟩ := Option.isSome_iff_exists.1 h1
  have hb : b < w.heap.size := block_lt_of_cell hv
  exact ⟨by rw [hg.cell _ hb]; exact h1, by rw [World.frozen?_of_block (w := w) (hg.2.2.2 b hb)]; exact h2⟩
theorem Lain.frame {W w' : World} (h : Lain W w') (may : MemPlace → Prop) : W.keptBut w' may := by
  refine ⟨h.1, h.2.1, fun i hi => ?_⟩
  rw [h.2.2.2 i hi]
  split <;> simp_all
theorem Lain.frozen {W w' : World} (h : Lain W w') {a : Addr} (ha : a.block < W.heap.size) : w'.frozen? a = W.frozen? a := World.frozen?_of_block (w := W) (h.2.2.2 _ ha)
theorem Lain.drew {W w' : World} (h : Lain W w') : Lain W w'.drew := h
theorem Lain.put {W w' : World} (h : Lain W w') {l : Nat} (hl : W.heap.size ≤ l) (o : Obj) : Lain W (w'.putObj l o) := by
  have hg := grownBy_putObj' w' l o
  refine ⟨hg.os.trans h.1, hg.output.trans h.2.1, Nat.le_trans h.2.2.1 hg.size, fun k hk => ?_⟩
  rw [hg.block k (by have := h.2.2.1; omega) (fun e => by cases e; omega)]
  exact h.2.2.2 k hk
theorem Lain.set {W w' : World} (h : Lain W w') {b o : Nat} (hb : W.heap.size ≤ b) (vs : List Value) : Lain W (w'.setCells b o vs) := by
  have hg := grown_setCells (W := W) hb vs o (w' := w')
  induction vs generalizing w' o with
  | nil => exact h
  | cons v r ih =>
    refine ih (o := o + 1) ?_ (grown_setCells (W := W) hb r (o + 1))
    refine ⟨h.1, h.2.1, by simpa [World.setCell] using h.2.2.1, fun k hk => ?_⟩
    rw [Below.heap_setCell _ _ _ _ (by show k ≠ b; omega)]
    exact h.2.2.2 k hk
/-- cells below n stay, but those of block x -/
def CellsLow (n x : Nat) (W W' : World) : Prop := ∀ p : Addr, p.block < n → p.block ≠ x → W'.cell? p = W.cell? p

theorem cellsLow_t {n x : Nat} {A B C : World} (h : CellsLow n x A B) (k : CellsLow n x B C) : CellsLow n x A C := fun p hp hx => (k p hp hx).trans (h p hp hx)
theorem cellsLow_b {n x : Nat} {w : World} (hn : n ≤ w.heap.size) (W : World) (l : Nat) (o o' : Obj) (hl : w.heap.size ≤ l) (h : W.heap[l]? = some o) (_ : o.isCells = false) (_ : o.isWalk = false) : CellsLow n x W (W.putObj l o') := by
  intro p hp _
  have hg := grownBy_putObj' W l o'
  have := (Array.getElem?_eq_some_iff.1 h).1
  exact World.cell?_of_block (w := W) (hg.block p.block (by omega) (fun e => by cases e; omega))
theorem GB.low {b n : Nat} {W W' : World} (h : GB b W W') (hn : n ≤ W.heap.size) : CellsLow n b W W' := fun p hp hx => World.cell?_of_block (w := W) (h.block (by omega) hx)
theorem GB.keeps {b B : Nat} {W W' : World} (h : GB b W W') (hc : ∀ o, W.heap[b]? = some o → o.isCells = true) : KeepsFrom B W W' := by
  refine ⟨h.2.2, fun k o _ hk ho => ?_⟩
  have hlt := (Array.getElem?_eq_some_iff.1 hk).1
  by_cases e : k = b
  · subst e; rw [hc o hk] at ho; cases ho
  · rw [h.block hlt e]; exact hk
theorem GB.lain {b : Nat} {w W W' : World} (h : GB b W W') (hw : Lain w W) (hb : w.heap.size ≤ b) : Lain w W' :=
  ⟨h.1.1.trans hw.1, h.1.2.1.trans hw.2.1, Nat.le_trans hw.2.2.1 h.2.2, fun k hk => (h.block (by have := hw.2.2.1; omega) (by omega)).trans (hw.2.2.2 k hk)⟩
theorem lain_own {w : World} {n : Nat} (hn : w.heap.size ≤ n) {β : Type} : OwnFrom n (fun (_ : β) W => Lain w W) := by
  intro s W W' row hs hg hr
  refine ⟨hg.os.trans hs.1, hg.output.trans hs.2.1, Nat.le_trans hs.2.2.1 hg.size, fun k hk => ?_⟩
  rw [hg.block k (by have := hs.2.2.1; omega) (fun e => by have := (hr k e.symm).1; omega)]
  exact hs.2.2.2 k hk
theorem range_own {n : Nat} {β : Type} (b : Nat) (f : β → List Value) (m : Nat) : OwnFrom n (fun (s : β) W => W.rangeAt b 0 (f s) ∧ W.there b 0 m) := by
  intro s W W' row hs hg hr
  refine ⟨fun j v hv => cell_kept (hs.1 j v hv) hg (fun r e => (hr r e).2), fun j hj => ?_⟩
  obtain ⟨h1, h2⟩ := hs.2 j hj
  obtain ⟨v, hv⟩ := Option.isSome_iff_exists.1 h1
  exact ⟨by rw [cell_kept hv hg (fun r e => (hr r e).2)]; rfl, (frozen_kept hv hg (fun r e => (hr r e).2)).trans h2⟩
end Go.Proofs.YteijccjdejjbjaaDoor
namespace Go.Proofs.YteijccjdejjbjaaDoor
open Go.RowKit Go.Shelf ScalarNum
attribute [local go_sem] Oper.semAt_some

theorem w64i (n : Int) : IntKind.i64.wrap n = wrap64 n := by
  simp only [IntKind.wrap, IntKind.signed, IntKind.bits, wrap64]; simp; omega
abbrev I8 := { d : Int // -128 ≤ d ∧ d ≤ 127 }
/-- what has come when k rounds are over, from the last on -/
def down (len : Nat) (f : Nat → I8) (k : Nat) : List (Int × I8) := (List.range k).map fun (j : Nat) => (((len : Int) - 1 - (j : Int) : Int), f (len - 1 - j))
theorem down_succ (len : Nat) (f : Nat → I8) (k : Nat) : down len f (k + 1) = down len f k ++ [((len : Int) - 1 - (k : Int), f (len - 1 - k))] := by simp [down, List.range_succ]
theorem down_length (len : Nat) (f : Nat → I8) (k : Nat) : (down len f k).length = k := by simp [down]

/-- the slice holds the digits f 0, .., f (len - 1), in a block below n -/
def DigS (n : Nat) (W : World) (sv : Value) (len : Nat) (f : Nat → I8) : Prop :=
  (len = 0 ∧ ∃ a c, sv = .slice a 0 c) ∨ ∃ b off cap, sv = .slice (some ⟨b, off, none⟩) len cap ∧ b < n ∧ ∀ j, j < len → W.cell? ⟨b, off + j, none⟩ = some (.int .i8 (f j).1)

set_option maxRecDepth 100000 in
set_option maxHeartbeats 1000000 in
theorem back_in (a : Option Addr) (len cap : Nat) (w : World) : Calls Tryd.prog 64 #[.slice a len cap] w fun e w' => e = .returned (.func (.func 69) #[] #[.pointer (some ⟨w.heap.size, 0, none⟩)]) ∧ w' = w.alloc (.cells #[.slice a len cap] 30) := by
  go_enter Tryd.func64, Tryd.ntmps64
  go_wp2
  go_ret
  exact ⟨rfl, rfl⟩

set_option maxRecDepth 100000 in
set_option maxHeartbeats 2000000 in
theorem back1_in (n : Nat) (hn : 1 ≤ n) (l Bs n₀ xb b off len cap : Nat) (f : Nat → I8) (hreach : len ≤ 300) (hb : b < n₀) (hBn : Bs < n₀) (hbx : b ≠ xb) (hBx : Bs ≠ xb) (J Jx : List (Int × I8) → World → Prop)
    (hY : ∀ pre x W, J pre W → pre.length < len → YieldAt Fence.wide (n - 1) Tryd.prog l #[.int .i64 x.1, .int .i8 x.2.1] W fun e W' =>
      (e = .returned (.bool true) ∧ J (pre ++ [x]) W' ∧ CellsLow n₀ xb W W') ∨ (e = .returned (.bool false) ∧ Jx (pre ++ [x]) W'))
    (W : World) (hBs : W.cell? ⟨Bs, 0, none⟩ = some (.slice (some ⟨b, off, none⟩) len cap)) (hc : ∀ j, j < len → W.cell? ⟨b, off + j, none⟩ = some (.int .i8 (f j).1)) (h0 : J [] W) :
    CallsIn Fence.wide n Tryd.prog 69 #[.func (.yield l) #[] #[], .pointer (some ⟨Bs, 0, none⟩)] W fun e W' => (∃ v, e = .returned v) ∧
      ((∃ ys, ys = down len f len ∧ J ys W') ∨ (∃ pre, True ∧ Jx pre W')) := by
  refine callsIn_of_wp Tryd.func69 rfl trivial ?_ rfl
  simp only [Tryd.ntmps69, List.size_toArray, List.length_cons, List.length_nil, Nat.reduceAdd, Nat.reduceSub, Array.replicate_succ, Array.replicate_zero, List.push_toArray, List.append_toArray, List.nil_append, List.cons_append]
  have e0 : IntKind.i64.wrap ((len : Int) - 1) = (len : Int) - 1 := by rw [w64i]; unfold wrap64; omega
  gi_wp2
  gi_loopw [3] (fun i wr => ∃ k : Nat, k ≤ len ∧ i = .int .i64 ((len : Int) - 1 - k) ∧ J (down len f k) wr ∧ CellsLow n₀ xb W wr)
    (fun i _ => (intOf i + 1).toNat)
  case atStart => exact ⟨0, Nat.zero_le _, by simp, h0, fun _ _ _ => rfl⟩
  case round =>
    obtain ⟨k, hk, rfl, hJs, hnx⟩ := hrel
    have hbs' : wr.cell? ⟨Bs, 0, none⟩ = some (.slice (some ⟨b, off, none⟩) len cap) := (hnx ⟨Bs, 0, none⟩ hBn hBx).trans hBs
    by_cases hlt : k < len
    · obtain ⟨i, hi⟩ : ∃ i : Nat, i = len - 1 - k := ⟨_, rfl⟩
      have hi2 : (len : Int) - 1 - (k : Int) = (i : Int) := by omega
      have hcx : wr.cell? ⟨b, off + i, none⟩ = some (.int .i8 (f i).1) := (hnx ⟨b, off + i, none⟩ hb hbx).trans (hc _ (by omega))
      obtain ⟨fn, tmps, assign, body, hy, hR⟩ := hY _ ((i : Int), f i) wr hJs (by rw [down_length]; exact hlt)
      dsimp only at hy
      have hds := down_succ len f k
      rw [← hi, hi2] at hds
      rw [hi2]
      have e1 : IntKind.i64.wrap ((i : Int) - 1) = (i : Int) - 1 := by rw [w64i]; unfold wrap64; omega
      have hil : i < len := by omega
      have hk1 : k + 1 ≤ len := by omega
      have e2 : (i : Int) - 1 = (len : Int) - 1 - ((k + 1 : Nat) : Int) := by omega
      have HD := Hid.of (And.intro hds (And.intro e2 hk1))
      clear hds e2 hi hi2 hk1 hk hlt
      generalize down len f k = pre at *
      gi_wp2
      refine hR.mono ?_
      rintro e W3 (⟨rfl, hJ3, hk3⟩ | ⟨rfl, hJx3⟩)
      · gi_wp2
        go_roundw
        case rel => exact ⟨k + 1, HD.out.2.2, by rw [HD.out.2.1], by rw [HD.out.1]; exact hJ3, cellsLow_t hnx hk3⟩
        case measure => simp [intOf]
      · gi_wp2
        refine bodyPost_ret (results_none rfl _ _ _) rfl ?_
        exact ⟨⟨_, rfl⟩, .inr ⟨_, trivial, hJx3⟩⟩
    · obtain rfl : k = len := by omega
      have e3 : (k : Int) - 1 - (k : Int) = -1 := by omega
      rw [e3]
      gi_wp2
      go_end0
      exact ⟨⟨_, rfl⟩, .inl ⟨_, rfl, hJs⟩⟩

set_option maxRecDepth 100000 in
set_option maxHeartbeats 1000000 in
theorem back1_nil (n : Nat) (l Bs : Nat) (a : Option Addr) (c : Nat) (J : List (Int × I8) → World → Prop) (W : World) (hBs : W.cell? ⟨Bs, 0, none⟩ = some (.slice a 0 c)) (h0 : J [] W) :
    CallsIn Fence.wide n Tryd.prog 69 #[.func (.yield l) #[] #[], .pointer (some ⟨Bs, 0, none⟩)] W fun e W' => (∃ v, e = .returned v) ∧ J [] W' := by
  refine callsIn_of_wp Tryd.func69 rfl trivial ?_ rfl
  simp only [Tryd.ntmps69, List.size_toArray, List.length_cons, List.length_nil, Nat.reduceAdd, Nat.reduceSub, Array.replicate_succ, Array.replicate_zero, List.push_toArray, List.append_toArray, List.nil_append, List.cons_append]
  gi_wp2
  gi_loopw [3] (fun i wr => i = .int .i64 (-1) ∧ J [] wr) (fun _ _ => 0)
  case atStart => exact ⟨rfl, h0⟩
  case round =>
    obtain ⟨rfl, hJs⟩ := hrel
    gi_wp2
    go_end0
    exact ⟨⟨_, rfl⟩, hJs⟩

theorem back_stops (n : Nat) (hn : 1 ≤ n) (Bs n₁ n₀ xb : Nat) (sv : Value) (len : Nat) (f : Nat → I8) (hlen : len ≤ 300) (w : World) (hBn : Bs < n₀) (hn₀ : n₀ ≤ w.heap.size) (hn₁ : n₁ ≤ n₀) (hn₁x : n₁ ≤ xb) (hBx : Bs ≠ xb)
    (hc : w.cell? ⟨Bs, 0, none⟩ = some sv) (hI : DigS n₁ w sv len f) :
    SeqStopsK Fence.wide n Tryd.prog 69 #[.pointer (some ⟨Bs, 0, none⟩)] (fun x : Int × I8 => #[Value.int .i64 x.1, Value.int .i8 x.2.1]) (CellsLow n₀ xb) (fun ys => ys = down len f len) (fun _ => True) len w := fun l J Jx W hW _ _ hY h0 => by
  have hc' := (hW.cell (p := ⟨Bs, 0, none⟩) (by show Bs < _; omega)).trans hc
  rcases hI with ⟨rfl, a, c, rfl⟩ | ⟨b, off, cap, rfl, hb, hcs⟩
  · exact (back1_nil n l Bs a c J W hc' h0).mono fun e W' ⟨he, hj⟩ => ⟨he, .inl ⟨_, rfl, hj⟩⟩
  · exact back1_in n hn l Bs n₀ xb b off len cap f hlen (by omega) hBn (by omega) hBx J Jx hY W hc' (fun j hj => (hW.cell (p := ⟨b, off + j, none⟩) (by show b < _; omega)).trans (hcs j hj)) h0
end Go.Proofs.YteijccjdejjbjaaDoor
namespace ScalarNum

/-- the digit of width w that N ends with -/
def nd (w N : Nat) : Int := if N % 2 = 0 then 0 else if N % 2 ^ w < 2 ^ (w - 1) then ((N % 2 ^ w : Nat) : Int) else ((N % 2 ^ w : Nat) : Int) - ((2 ^ w : Nat) : Int)
/-- what is left of it -/
def nq (w N : Nat) : Nat := if N % 2 = 0 then N else if N % 2 ^ w < 2 ^ (w - 1) then N - N % 2 ^ w else N - N % 2 ^ w + 2 ^ w
/-- the numbers -/
def nn (w X : Nat) : Nat → Nat
  | 0 => X
  | i + 1 => nq w (nn w X i) / 2
def dn (w X i : Nat) : Int := nd w (nn w X i)

theorem nq_eq (w N : Nat) : ((nq w N : Nat) : Int) = (N : Int) - nd w N := by
  unfold nq nd
  have h := Nat.mod_le N (2 ^ w)
  generalize 2 ^ w = P at *
  generalize 2 ^ (w - 1) = H at *
  generalize N % P = e at *
  split
  · omega
  · split <;> omega
theorem nq_even {w N : Nat} (hw : 1 ≤ w) : nq w N % 2 = 0 := by
  have hp : ∃ k, 2 ^ w = 2 * k := ⟨2 ^ (w - 1), by rw [← Nat.pow_succ']; congr 1; omega⟩
  obtain ⟨k, hk⟩ := hp
  have h1 := Nat.div_add_mod N (2 ^ w)
  unfold nq
  rw [hk] at h1 ⊢
  generalize 2 ^ (w - 1) = H
  have h2 : N - N % (2 * k) = 2 * (k * (N / (2 * k))) := by
    rw [← Nat.mul_assoc]
    generalize 2 * k * (N / (2 * k)) = q at *
    omega
  split
  · assumption
  · split
    · rw [h2]; exact Nat.mul_mod_right _ _
    · rw [h2]; omega
theorem nn_step (w X i : Nat) (hw : 1 ≤ w) : ((nn w X i : Nat) : Int) = dn w X i + 2 * ((nn w X (i + 1) : Nat) : Int) := by
  have h1 := nq_eq w (nn w X i)
  have h2 := nq_even (N := nn w X i) hw
  simp only [nn]
  unfold dn
  omega
/-- bounds of a digit -/
theorem nd_bounds {w N : Nat} (hw : 1 ≤ w) : -((2 ^ (w - 1) : Nat) : Int) ≤ nd w N ∧ nd w N ≤ ((2 ^ (w - 1) : Nat) : Int) ∧ (nd w N ≠ 0 → N % 2 = 1 ∧ nd w N % 2 = 1) := by
  have hp : 2 ^ w = 2 * 2 ^ (w - 1) := by rw [← Nat.pow_succ']; congr 1; omega
  have h1 := Nat.mod_lt N (show 0 < 2 ^ w from Nat.pow_pos (by decide))
  have h2 : N % 2 ^ w % 2 = N % 2 := by rw [hp, Nat.mod_mul_right_mod]
  unfold nd
  rw [hp] at h1 h2 ⊢
  generalize 2 ^ (w - 1) = H at *
  generalize N % (2 * H) = e at *
  split
  · exact ⟨by omega, by omega, fun h => absurd rfl h⟩
  · split
    · exact ⟨by omega, by omega, fun _ => by omega⟩
    · exact ⟨by omega, by omega, fun _ => by omega⟩

/-- the numbers grow less -/
theorem nq_le {w N k : Nat} (hw : 2 ≤ w) (h : N ≤ 2 ^ k) : nq w N ≤ 2 ^ k := by
  have hP : 0 < 2 ^ w := Nat.pow_pos (by decide)
  have h1 := Nat.div_add_mod N (2 ^ w)
  have h2 := Nat.mod_lt N hP
  unfold nq
  split
  · exact h
  · rename_i hodd
    split
    · omega
    · rename_i hge
      by_cases hk : w ≤ k
      · obtain ⟨d, rfl⟩ : ∃ d, k = w + d := ⟨k - w, by omega⟩
        rw [Nat.pow_add] at h ⊢
        have h3 : N / 2 ^ w < 2 ^ d := by
          rcases Nat.lt_or_ge (N / 2 ^ w) (2 ^ d) with h4 | h4
          · exact h4
          · exfalso
            have h5 : 2 ^ w * 2 ^ d ≤ 2 ^ w * (N / 2 ^ w) := Nat.mul_le_mul_left _ h4
            have h6 : N = 2 ^ w * 2 ^ d := by omega
            rw [h6, show w = w - 1 + 1 by omega, Nat.pow_succ, Nat.mul_comm (2 ^ (w - 1)) 2, Nat.mul_assoc, Nat.mul_mod_right] at hodd
            exact hodd rfl
        have h5 : 2 ^ w * (N / 2 ^ w + 1) ≤ 2 ^ w * 2 ^ d := Nat.mul_le_mul_left _ h3
        rw [Nat.mul_add, Nat.mul_one] at h5
        omega
      · exfalso
        have h3 : 2 ^ k ≤ 2 ^ (w - 1) := Nat.pow_le_pow_right (by decide) (by omega)
        have h4 : 2 ^ (w - 1) < 2 ^ w := Nat.pow_lt_pow_right (by decide) (by omega)
        rw [Nat.mod_eq_of_lt (by omega)] at hge
        have h5 : N = 2 ^ (w - 1) := by omega
        rw [h5, show w - 1 = w - 2 + 1 by omega, Nat.pow_succ, Nat.mul_mod_left] at hodd
        exact hodd rfl
theorem nn_le {w X : Nat} (hw : 2 ≤ w) (hX : X < 2 ^ 256) : ∀ i, i ≤ 256 → nn w X i ≤ 2 ^ (256 - i)
  | 0, _ => Nat.le_of_lt hX
  | i + 1, h => by
    have h1 := nq_le (k := 256 - i) hw (nn_le hw hX i (by omega))
    simp only [nn]
    rw [show 256 - i = 256 - (i + 1) + 1 by omega, Nat.pow_succ] at h1
    omega
theorem nn_end {w X : Nat} (hw : 2 ≤ w) (hX : X < 2 ^ 256) : nn w X 257 = 0 := by
  have h := nn_le hw hX 256 (Nat.le_refl _)
  show nq w (nn w X 256) / 2 = 0
  rw [Nat.sub_self, Nat.pow_zero] at h
  have h1 := nq_le (k := 0) hw (by rw [Nat.pow_zero]; exact h)
  rw [Nat.pow_zero] at h1
  omega
theorem nn_lt {w X i : Nat} (hw : 2 ≤ w) (hX : X < 2 ^ 256) (hi : i ≤ 257) : nn w X i < 2 ^ 256 := by
  rcases Nat.eq_zero_or_pos i with rfl | h0
  · exact hX
  · by_cases h : i ≤ 256
    · have := nn_le hw hX i h
      refine Nat.lt_of_le_of_lt this (Nat.pow_lt_pow_right (by decide) (by omega))
    · have : i = 257 := by omega
      subst this
      rw [nn_end hw hX]; decide
end ScalarNum
namespace Go.Proofs.YteijccjdejjbjaaDoor
open Go.RowKit Go.Shelf ScalarNum

theorem st_div_low {b v k z : Nat} (hb : 0 < b) : st b v k z / b ^ k = v / b ^ (k + 1) * b + z := by
  have hp : 0 < b ^ k := Nat.pow_pos hb
  have e : st b v k z = b ^ k * (v / b ^ (k + 1) * b + z) + v % b ^ k := by
    unfold st
    generalize v / b ^ (k + 1) = q
    rw [Nat.mul_add, Nat.mul_comm (b ^ k) z, Nat.pow_succ, ← Nat.mul_assoc (b ^ k), Nat.mul_comm (b ^ k) q, Nat.mul_assoc]
  rw [e, Nat.mul_add_div hp, Nat.div_eq_of_lt (Nat.mod_lt _ hp), Nat.add_zero]
theorem st_mod_low {b v k z : Nat} : st b v k z % b ^ k = v % b ^ k := by
  unfold st
  have e : v / b ^ (k + 1) * b ^ (k + 1) + z * b ^ k + v % b ^ k = v % b ^ k + (v / b ^ (k + 1) * b + z) * b ^ k := by
    rw [Nat.add_mul, Nat.pow_succ, Nat.mul_assoc _ b, Nat.mul_comm b]
    omega
  rw [e, Nat.add_mul_mod_self_right, Nat.mod_mod]
theorem hv_word (q : Nat) : q / 18446744073709551616 / 2 * 18446744073709551616 + (q % 18446744073709551616 / 2 + q / 18446744073709551616 % 2 * 9223372036854775808) = q / 2 ∧ q % 18446744073709551616 % 2 = q % 2 ∧ q % 18446744073709551616 / 2 + q / 18446744073709551616 % 2 * 9223372036854775808 < 18446744073709551616 := by omega
theorem hv_step {cur v T k : Nat} (h1 : cur / B ^ (k + 1) = T / B ^ (k + 1) / 2) (h2 : cur % B ^ (k + 1) = v % B ^ (k + 1)) (h3 : dg B v k = T / B ^ k % B) :
    dg B cur k = dg B v k ∧ dg B v k / 2 + T / B ^ (k + 1) % 2 * 9223372036854775808 < B ∧
    st B cur k (dg B v k / 2 + T / B ^ (k + 1) % 2 * 9223372036854775808) / B ^ k = T / B ^ k / 2 ∧
    st B cur k (dg B v k / 2 + T / B ^ (k + 1) % 2 * 9223372036854775808) % B ^ k = v % B ^ k ∧ dg B v k % 2 = T / B ^ k % 2 := by
  have e0 : dg B cur k = dg B v k := by
    have a1 : ∀ x, dg B x k = x % B ^ (k + 1) / B ^ k := by
      intro x
      unfold dg
      rw [Nat.pow_succ, Nat.mod_mul_right_div_self]
    rw [a1, a1, h2]
  have e1 : T / B ^ (k + 1) = T / B ^ k / B := by rw [Nat.pow_succ, Nat.div_div_eq_div_mul]
  obtain ⟨w1, w2, w3⟩ := hv_word (T / B ^ k)
  rw [h3, e1]
  refine ⟨by rw [e0, h3], w3, ?_, ?_, w2⟩
  · rw [st_div_low B_pos, h1, e1]; exact w1
  · rw [st_mod_low]
    have : cur % B ^ (k + 1) % B ^ k = v % B ^ (k + 1) % B ^ k := by rw [h2]
    rwa [Nat.pow_succ, Nat.mod_mul_right_mod, Nat.mod_mul_right_mod] at this

theorem or63 (a c : Nat) (ha : a < 9223372036854775808) (hc : c ≤ 1) : bits .or .u64 (a : Int) ((c : Int) * 9223372036854775808) = ((a + c * 9223372036854775808 : Nat) : Int) := by
  have := or_nat a c 63 ha (by
    have : B = 18446744073709551616 := rfl
    have e : (2 : Nat) ^ 63 = 9223372036854775808 := by decide
    rw [e]; omega)
  rw [show (2 : Int) ^ 63 = 9223372036854775808 from by decide, show (2 : Nat) ^ 63 = 9223372036854775808 from by decide, Nat.add_comm, IntKind.wrap_u64, show (c : Int) * 9223372036854775808 % 18446744073709551616 = (c : Int) * 9223372036854775808 by omega] at this
  exact this
theorem and1 (q : Nat) (hq : q < B) : bits .and .u64 (q : Int) 1 = ((q % 2 : Nat) : Int) := by
  have := bits_and_u64_nat q 1 hq (by omega)
  have e : q &&& 1 = q % 2 := Nat.and_two_pow_sub_one_eq_mod q 1
  rw [e] at this
  exact this

structure VX (w0 : World) (b cur : Nat) (wr : World) : Prop where
  rx : wr.rangeAt b 0 (wl 4 cur)
  tx : wr.there b 0 4
  gw : GB b w0 wr

theorem dg_sum (v c k : Nat) (hk : k < 4) : dg B v k = (v + c * M) / B ^ k % B := by
  show dg B v k = dg B (v + c * M) k
  rw [Nat.add_comm, ← B4, dg_low B_pos _ _ _ _ hk]

set_option maxRecDepth 100000 in
set_option maxHeartbeats 4000000 in
theorem halve_num (b v c : Nat) (hv : v < M) (hc : c ≤ 1) (w : World) (hr : w.rangeAt b 0 (wl 4 v)) (ht : w.there b 0 4) :
    Calls Tryd.prog 68 #[.pointer (some ⟨b, 0, none⟩), .int .u64 (c : Int)] w fun e w' => e = .returned (.tuple #[]) ∧ GB b w w' ∧ w'.rangeAt b 0 (wl 4 ((v + c * M) / 2)) ∧ w'.there b 0 4 := by
  have H0 := Hid.of (show VX w b v w from ⟨hr, ht, GB.refl _ _⟩)
  have T0 := Hid.of (show v / B ^ 4 = (v + c * M) / B ^ 4 / 2 ∧ c = (v + c * M) / B ^ 4 % 2 by
    rw [B4, Nat.add_mul_div_right _ _ (show 0 < M by decide), Nat.div_eq_of_lt hv, Nat.zero_add]
    omega)
  have HS := Hid.of (fun k (h : k < 4) => dg_sum v c k h)
  clear hr ht
  generalize hT : v + c * M = T at *
  have HT := Hid.of hT
  clear hT
  go_enter Tryd.func68, Tryd.ntmps68
  go_wp2
  go_loopw [1, 6] (fun v1 v6 wr => ∃ i k cur cc : Nat, v6 = .int .i64 (i : Int) ∧ v1 = .int .u64 (cc : Int) ∧ i + k = 4 ∧ cc ≤ 1 ∧ cur / B ^ k = T / B ^ k / 2 ∧ cur % B ^ k = v % B ^ k ∧ cc = T / B ^ k % 2 ∧ VX w b cur wr) (fun _ v6 _ => 4 - (intOf v6).toNat)
  case atStart => exact ⟨0, 4, v, c, rfl, rfl, rfl, hc, T0.out.1, rfl, T0.out.2, H0.out⟩
  case round =>
    obtain ⟨i, k, cur, cc, rfl, rfl, hik, hcc, h1, h2, h3, hX⟩ := hrel
    clear H0 T0
    rcases k with _ | k
    · have hi4 : i = 4 := by omega
      subst hi4
      rw [Nat.pow_zero, Nat.div_one, Nat.div_one] at h1
      have HX := Hid.of hX
      have H1 := Hid.of h1
      clear h1 h2 h3 hX hik hcc
      go_wp2
      go_end0
      rw [← H1.out]
      exact ⟨rfl, HX.out.gw, HX.out.rx, HX.out.tx⟩
    · have hk4 : k < 4 := by omega
      obtain ⟨e0, e1, e2, e3, e4⟩ := hv_step h1 h2 (HS.out k hk4)
      rw [← h3] at e1 e2 e3
      have d1 : wr.cell? ⟨b, k, none⟩ = some (.int .u64 (dg B v k : Nat)) := by
        have := hX.rx k _ (wl_get 4 _ k hk4); rwa [Nat.zero_add, e0] at this
      have d2 : wr.frozen? ⟨b, k, none⟩ = false := by
        have := (hX.tx k hk4).2; rwa [Nat.zero_add] at this
      have hd : dg B v k < B := dg_lt B_pos
      have hd2 : dg B v k / 2 < 9223372036854775808 := by
        have hB : dg B v k < 18446744073709551616 := hd
        clear h1 h2 h3 e0 e1 e2 e3 e4 d1 d2 hd hik
        omega
      have f1 := or63 (dg B v k / 2) cc hd2 hcc
      have f2 := and1 _ hd
      have f3 : (dg B v k : Int) / 2 = ((dg B v k / 2 : Nat) : Int) := by simp
      have hset := fun z (hz : z < B) => wrange_set hX.rx hz hk4
      have HY := Hid.of (And.intro e1 (And.intro e2 (And.intro e3 (And.intro e4 (And.intro hset hX)))))
      clear e0 e1 e2 e3 e4 h1 h2 h3 hset hX hd hd2
      generalize dg B v k / 2 + cc * 9223372036854775808 = nw at *
      generalize dg B v k / 2 = hf at *
      generalize dg B v k % 2 = c2 at *
      generalize dg B v k = lm at *
      have ei : (3 : Int) - (i : Int) = (k : Int) := by omega
      have b1 : (i : Int) < 4 := by omega
      have b2 : (k : Int) < 4 := by omega
      go_wp2
      go_roundw
      case rel =>
        obtain ⟨e1, e2, e3, e4, hset, hX⟩ := HY.out
        exact ⟨i + 1, k, st B cur k nw, c2, by go_num, rfl, by omega, by rw [e4]; exact Nat.le_of_lt_succ (Nat.mod_lt _ (by decide)), e2, e3, e4, hset nw e1, there_setCell hX.tx _ _, GB.setCell hX.gw _⟩
      case measure => simp [intOf]; omega
end Go.Proofs.YteijccjdejjbjaaDoor
