import Derived.Test.YteijccjdejjbjaaDoorQk8
import Derived.Laws.MakeOwn
namespace Go.Proofs.YteijccjdejjbjaaDoor
open Go.RowKit Go.Shelf ScalarNum

/-- the cells of one call -/
def opc (k : Int) (a b c u : Nat) (n : Int) (d : Value) : List Value := .int .i64 k :: (yl 32 a ++ (yl 32 b ++ (yl 32 c ++ (yl 64 u ++ [.int .i64 n, d]))))
theorem opc_length (k : Int) (a b c u : Nat) (n : Int) (d : Value) : (opc k a b c u n d).length = 163 := by simp [opc, yl_length]
/-- a call that lies in memory -/
structure OZ (w : World) (p : Nat) (k : Int) (a b c u : Nat) (n : Int) (d : Value) : Prop where
  rk : w.cell? ⟨p, 0, none⟩ = some (.int .i64 k)
  ra : w.rangeAt p 1 (yl 32 a)
  rb : w.rangeAt p 33 (yl 32 b)
  rc : w.rangeAt p 65 (yl 32 c)
  ru : w.rangeAt p 97 (yl 64 u)
  rn : w.cell? ⟨p, 161, none⟩ = some (.int .i64 n)
  rd : w.cell? ⟨p, 162, none⟩ = some d
theorem range_app {w : World} {p o : Nat} {l m : List Value} (h : w.rangeAt p o (l ++ m)) : w.rangeAt p o l ∧ w.rangeAt p (o + l.length) m := by
  refine ⟨fun j v hv => h j v (by rw [List.getElem?_append_left (List.getElem?_eq_some_iff.1 hv).1]; exact hv), fun j v hv => ?_⟩
  have := h (l.length + j) v (by rw [List.getElem?_append_right (by omega), Nat.add_sub_cancel_left]; exact hv)
  rwa [← Nat.add_assoc] at this
theorem ox_of {w : World} {p : Nat} {k : Int} {a b c u : Nat} {n : Int} {d : Value} (h : w.rangeAt p 0 (opc k a b c u n d)) : OZ w p k a b c u n d := by
  have h0 : w.rangeAt p 0 ([.int .i64 k] ++ (yl 32 a ++ (yl 32 b ++ (yl 32 c ++ (yl 64 u ++ ([.int .i64 n] ++ [d])))))) := h
  obtain ⟨e0, h1⟩ := range_app h0
  obtain ⟨e1, h2⟩ := range_app h1
  obtain ⟨e2, h3⟩ := range_app h2
  obtain ⟨e3, h4⟩ := range_app h3
  obtain ⟨e4, h5⟩ := range_app h4
  obtain ⟨e5, e6⟩ := range_app h5
  simp only [yl_length, List.length_cons, List.length_nil, Nat.zero_add, Nat.reduceAdd] at e1 e2 e3 e4 e5 e6
  exact ⟨e0 0 _ rfl, e1, e2, e3, e4, e5 0 _ rfl, e6 0 _ rfl⟩
theorem OZ.lain {w w' : World} {p : Nat} {k : Int} {a b c u : Nat} {n : Int} {d : Value} (h : OZ w p k a b c u n d) (g : Lain w w') : OZ w' p k a b c u n d := by
  have hp : p < w.heap.size := block_lt_of_cell h.rk
  exact ⟨(g.cell _ hp).trans h.rk, g.range h.ra, g.range h.rb, g.range h.rc, g.range h.ru, (g.cell _ hp).trans h.rn, (g.cell _ hp).trans h.rd⟩
theorem OZ.drew {w : World} {p : Nat} {k : Int} {a b c u : Nat} {n : Int} {d : Value} (h : OZ w p k a b c u n d) : OZ w.drew p k a b c u n d := ⟨h.rk, h.ra, h.rb, h.rc, h.ru, h.rn, h.rd⟩
theorem ox_new (w : World) (k : Int) (a b c u : Nat) (n : Int) (d : Value) (t : TypeId) : OZ (w.alloc (.cells (opc k a b c u n d).toArray t)) w.heap.size k a b c u n d ∧ Lain w (w.alloc (.cells (opc k a b c u n d).toArray t)) :=
  ⟨ox_of (rangeAt_alloc_new w t (opc k a b c u n d)), (Lain.refl w).alloc _⟩
/-- the laid variables */ -/
structure GS (w : World) : Prop where
  tb : Tab w
  od : w.rangeAt 1 0 (yl 32 L)
theorem GS.lain {w w' : World} (h : GS w) (g : Lain w w') : GS w' := ⟨h.tb.lain g, g.range h.od⟩

section
variable {md : Region.Mode} {ops : Array Oper} {Q : Exit → Act → World → Prop} {S : World → Prop} {fuel : Nat} {listed : Array Bool} {a : Act} {w : World}
theorem take64o (i : Nat) (n b o : Nat) {oi : Oper} (hi : ops.toList[i]? = some oi) (hs : Region.noSelect ops = true) (hf : Region.free md ops listed i = true) (hr : (Region.ready md ops listed).contains i = true)
    (hQ : ∀ c a w, Q (.panic c) (a.put oi.dst (yv 64 n)) w → Q (.panic c) a w) (hw : Region.wanted oi (yielded ops a.tmps) = true) {x : Operand} (ho : oi.op = .load 22 x)
    (hx : a.eval x = .pointer (some ⟨b, o, none⟩)) (hS : ∀ w, S w → w.rangeAt b o (yl 64 n)) (hSw : S w)
    (h : wpAnyH Tryd.prog md ops Q S fuel (listed.setIfInBounds i true) (a.put oi.dst (yv 64 n)) w) : wpAnyH Tryd.prog md ops Q S (fuel + 1) listed a w :=
  wpAnyH_take (i := i) (oi := oi) (v := yv 64 n) (by rw [← Array.getElem?_toList]; exact hi) hs hf hr hQ
    (yieldsIf_load_mid hw 22 x ho b o hx (yl 64 n) _ hS Tryd.underlying22 rfl (by rw [yl_length]; exact info64)) hSw h
end
theorem wpList_load32o {ops : Array Oper} {rest : List Oper} {op : Oper} {a : Act} {w : World} {Q : Exit → Act → World → Prop} (hgd : op.guard = none) (x : Operand) (ho : op.op = .load 23 x)
    (b o : Nat) (hx : a.eval x = .pointer (some ⟨b, o, none⟩)) (n : Nat) (hc : w.rangeAt b o (yl 32 n))
    (h : wpList Tryd.prog ops Q rest (a.put op.dst (yv 32 n)) w) : wpList Tryd.prog ops Q (op :: rest) a w :=
  wpList_load_mid hgd 23 x ho b o hx (yl 32 n) _ hc Tryd.underlying23 rfl (by rw [yl_length]; exact info32) h

set_option maxRecDepth 100000 in
set_option maxHeartbeats 1000000 in
theorem plays_canon (a b c u : Nat) (n : Int) (d : Value) (ha : a < M) (_hb : b < M) (_hc : c < M) (_hu : u < M * M) (w : World) (hG : GS w) :
    Calls Tryd.prog 38 #[.agg (opc 2 a b c u n d).toArray] w fun e w' => e = .returned (.bool true) ∧ Lain w w' := by
  have h0 := ox_new w 2 a b c u n d 51
  have HG := Hid.of hG
  clear hG
  have hk := h0.1.rk
  go_enter Tryd.func38, Tryd.ntmps38
  go_wp2
  generalize (w.alloc (.cells (opc 2 a b c u n d).toArray 51)) = W0 at *
  clear hk
  refine wp_region_noPanic ?_
  refine wp_region_held_drew (S := fun w' => OZ w' w.heap.size 2 a b c u n d ∧ Lain w w') (by kernel_rfl) ⟨h0.1.drew, h0.2⟩ (fun hH => ?_)
  clear h0
  refine takeV 0 (.pointer (some ⟨w.heap.size, 1, none⟩)) rfl (by kernel_rfl) (by kernel_rfl) (by kernel_rfl) (fun _ _ _ h => h) (by rfl) (fun w _ => by first | rfl | (go_simp; done)) hH ?_
  simp only [Act.put, List.setIfInBounds_toArray, List.set_cons_zero, List.set_cons_succ]
  refine take32o 1 a w.heap.size 1 rfl (by kernel_rfl) (by kernel_rfl) (by kernel_rfl) (fun _ _ _ h => h) (by rfl) rfl rfl (fun _ h => h.1.ra) hH ?_
  simp only [Act.put, List.setIfInBounds_toArray, List.set_cons_zero, List.set_cons_succ]
  refine takeV 3 (.pointer (some ⟨w.heap.size, 1, none⟩)) rfl (by kernel_rfl) (by kernel_rfl) (by kernel_rfl) (fun _ _ _ h => h) (by rfl) (fun w _ => by first | rfl | (go_simp; done)) hH ?_
  simp only [Act.put, List.setIfInBounds_toArray, List.set_cons_zero, List.set_cons_succ]
  refine take32o 4 a w.heap.size 1 rfl (by kernel_rfl) (by kernel_rfl) (by kernel_rfl) (fun _ _ _ h => h) (by rfl) rfl rfl (fun _ h => h.1.ra) hH ?_
  simp only [Act.put, List.setIfInBounds_toArray, List.set_cons_zero, List.set_cons_succ]
  refine step1 2 (by kernel_rfl) rfl (fun K hK => ?_)
  go_simp
  refine Calls.mono (Canonical_num a ha _ (HG.out.lain hH.2).tb) ?_
  rintro e w12 ⟨rfl, hg⟩
  dsimp only
  refine hK.out _ _ ⟨hH.1.lain (Lain.of hg), hH.2.trans (Lain.of hg)⟩ (fun hH => ?_)
  clear hK K hg
  refine step1 5 (by kernel_rfl) rfl (fun K hK => ?_)
  go_simp
  refine Calls.mono (refCanonical_num a ha _ (HG.out.lain hH.2).od) ?_
  rintro e w15 ⟨rfl, hg⟩
  dsimp only
  refine hK.out _ _ ⟨hH.1.lain (Lain.of hg), hH.2.trans (Lain.of hg)⟩ (fun hH => ?_)
  clear hK K hg
  refine takeV 6 (.bool true) rfl (by kernel_rfl) (by kernel_rfl) (by kernel_rfl) (fun _ _ _ h => h) (by rfl) (fun w _ => by cases (decide (a < L)) <;> (first | rfl | (go_simp; done))) hH ?_
  simp only [Act.put, List.setIfInBounds_toArray, List.set_cons_zero, List.set_cons_succ]
  refine takeV 7 (.bool true) rfl (by kernel_rfl) (by kernel_rfl) (by kernel_rfl) (fun _ _ _ h => h) (by rfl) (fun w _ => by first | rfl | (go_simp; done)) hH ?_
  simp only [Act.put, List.setIfInBounds_toArray, List.set_cons_zero, List.set_cons_succ]
  refine wpAnyH_done (by kernel_rfl) ?_ _
  refine NoPanic.normal ?_
  repeat go_step
  go_ret
  exact ⟨rfl, hH.2⟩

set_option maxRecDepth 100000 in
set_option maxHeartbeats 1000000 in
theorem plays_reduce (a b c u : Nat) (n : Int) (d : Value) (_ha : a < M) (_hb : b < M) (_hc : c < M) (hu : u < M * M) (w : World) (hG : GS w) :
    Calls Tryd.prog 38 #[.agg (opc 3 a b c u n d).toArray] w fun e w' => e = .returned (.bool true) ∧ Lain w w' := by
  have h0 := ox_new w 3 a b c u n d 51
  have HG := Hid.of hG
  clear hG
  have hk := h0.1.rk
  go_enter Tryd.func38, Tryd.ntmps38
  go_wp2
  generalize (w.alloc (.cells (opc 3 a b c u n d).toArray 51)) = W0 at *
  clear hk
  refine wp_region_noPanic ?_
  refine wp_region_held_drew (S := fun w' => OZ w' w.heap.size 3 a b c u n d ∧ Lain w w') (by kernel_rfl) ⟨h0.1.drew, h0.2⟩ (fun hH => ?_)
  clear h0
  refine takeV 0 (.pointer (some ⟨w.heap.size, 97, none⟩)) rfl (by kernel_rfl) (by kernel_rfl) (by kernel_rfl) (fun _ _ _ h => h) (by rfl) (fun w _ => by first | rfl | (go_simp; done)) hH ?_
  simp only [Act.put, List.setIfInBounds_toArray, List.set_cons_zero, List.set_cons_succ]
  refine take64o 1 u w.heap.size 97 rfl (by kernel_rfl) (by kernel_rfl) (by kernel_rfl) (fun _ _ _ h => h) (by rfl) rfl rfl (fun _ h => h.1.ru) hH ?_
  simp only [Act.put, List.setIfInBounds_toArray, List.set_cons_zero, List.set_cons_succ]
  refine takeV 3 (.pointer (some ⟨w.heap.size, 97, none⟩)) rfl (by kernel_rfl) (by kernel_rfl) (by kernel_rfl) (fun _ _ _ h => h) (by rfl) (fun w _ => by first | rfl | (go_simp; done)) hH ?_
  simp only [Act.put, List.setIfInBounds_toArray, List.set_cons_zero, List.set_cons_succ]
  refine take64o 4 u w.heap.size 97 rfl (by kernel_rfl) (by kernel_rfl) (by kernel_rfl) (fun _ _ _ h => h) (by rfl) rfl rfl (fun _ h => h.1.ru) hH ?_
  simp only [Act.put, List.setIfInBounds_toArray, List.set_cons_zero, List.set_cons_succ]
  refine step1 2 (by kernel_rfl) rfl (fun K hK => ?_)
  go_simp
  refine Calls.mono (Reduce_num u hu _ (HG.out.lain hH.2).tb) ?_
  rintro e w12 ⟨rfl, hg⟩
  dsimp only
  refine hK.out _ _ ⟨hH.1.lain (Lain.of hg), hH.2.trans (Lain.of hg)⟩ (fun hH => ?_)
  clear hK K hg
  refine step1 5 (by kernel_rfl) rfl (fun K hK => ?_)
  go_simp
  refine Calls.mono (refReduce_num u hu _ (HG.out.lain hH.2).od) ?_
  rintro e w15 ⟨rfl, hg⟩
  dsimp only
  refine hK.out _ _ ⟨hH.1.lain (Lain.of hg), hH.2.trans (Lain.of hg)⟩ (fun hH => ?_)
  clear hK K hg
  refine takeV 6 (.bool true) rfl (by kernel_rfl) (by kernel_rfl) (by kernel_rfl) (fun _ _ _ h => h) (by rfl) (fun w _ => exec_eql_same rfl (sred u) (sred u) rfl rfl (sred_lt u) (sred_lt u) rfl w) hH ?_
  simp only [Act.put, List.setIfInBounds_toArray, List.set_cons_zero, List.set_cons_succ]
  refine takeV 7 (.bool true) rfl (by kernel_rfl) (by kernel_rfl) (by kernel_rfl) (fun _ _ _ h => h) (by rfl) (fun w _ => by first | rfl | (go_simp; done)) hH ?_
  simp only [Act.put, List.setIfInBounds_toArray, List.set_cons_zero, List.set_cons_succ]
  refine wpAnyH_done (by kernel_rfl) ?_ _
  refine NoPanic.normal ?_
  repeat go_step
  go_ret
  exact ⟨rfl, hH.2⟩

set_option maxRecDepth 100000 in
set_option maxHeartbeats 1000000 in
theorem plays_add (a b c u : Nat) (n : Int) (d : Value) (ha : a < M) (hb : b < M) (_hc : c < M) (_hu : u < M * M) (w : World) (hG : GS w) :
    Calls Tryd.prog 38 #[.agg (opc 4 a b c u n d).toArray] w fun e w' => e = .returned (.bool true) ∧ Lain w w' := by
  have h0 := ox_new w 4 a b c u n d 51
  have HG := Hid.of hG
  clear hG
  have hk := h0.1.rk
  go_enter Tryd.func38, Tryd.ntmps38
  go_wp2
  generalize (w.alloc (.cells (opc 4 a b c u n d).toArray 51)) = W0 at *
  clear hk
  refine wp_region_noPanic ?_
  refine wp_region_held_drew (S := fun w' => OZ w' w.heap.size 4 a b c u n d ∧ Lain w w') (by kernel_rfl) ⟨h0.1.drew, h0.2⟩ (fun hH => ?_)
  clear h0
  refine takeV 0 (.pointer (some ⟨w.heap.size, 1, none⟩)) rfl (by kernel_rfl) (by kernel_rfl) (by kernel_rfl) (fun _ _ _ h => h) (by rfl) (fun w _ => by first | rfl | (go_simp; done)) hH ?_
  simp only [Act.put, List.setIfInBounds_toArray, List.set_cons_zero, List.set_cons_succ]
  refine take32o 1 a w.heap.size 1 rfl (by kernel_rfl) (by kernel_rfl) (by kernel_rfl) (fun _ _ _ h => h) (by rfl) rfl rfl (fun _ h => h.1.ra) hH ?_
  simp only [Act.put, List.setIfInBounds_toArray, List.set_cons_zero, List.set_cons_succ]
  refine takeV 2 (.pointer (some ⟨w.heap.size, 33, none⟩)) rfl (by kernel_rfl) (by kernel_rfl) (by kernel_rfl) (fun _ _ _ h => h) (by rfl) (fun w _ => by first | rfl | (go_simp; done)) hH ?_
  simp only [Act.put, List.setIfInBounds_toArray, List.set_cons_zero, List.set_cons_succ]
  refine take32o 3 b w.heap.size 33 rfl (by kernel_rfl) (by kernel_rfl) (by kernel_rfl) (fun _ _ _ h => h) (by rfl) rfl rfl (fun _ h => h.1.rb) hH ?_
  simp only [Act.put, List.setIfInBounds_toArray, List.set_cons_zero, List.set_cons_succ]
  refine takeV 5 (.pointer (some ⟨w.heap.size, 1, none⟩)) rfl (by kernel_rfl) (by kernel_rfl) (by kernel_rfl) (fun _ _ _ h => h) (by rfl) (fun w _ => by first | rfl | (go_simp; done)) hH ?_
  simp only [Act.put, List.setIfInBounds_toArray, List.set_cons_zero, List.set_cons_succ]
  refine take32o 6 a w.heap.size 1 rfl (by kernel_rfl) (by kernel_rfl) (by kernel_rfl) (fun _ _ _ h => h) (by rfl) rfl rfl (fun _ h => h.1.ra) hH ?_
  simp only [Act.put, List.setIfInBounds_toArray, List.set_cons_zero, List.set_cons_succ]
  refine takeV 7 (.pointer (some ⟨w.heap.size, 33, none⟩)) rfl (by kernel_rfl) (by kernel_rfl) (by kernel_rfl) (fun _ _ _ h => h) (by rfl) (fun w _ => by first | rfl | (go_simp; done)) hH ?_
  simp only [Act.put, List.setIfInBounds_toArray, List.set_cons_zero, List.set_cons_succ]
  refine take32o 8 b w.heap.size 33 rfl (by kernel_rfl) (by kernel_rfl) (by kernel_rfl) (fun _ _ _ h => h) (by rfl) rfl rfl (fun _ h => h.1.rb) hH ?_
  simp only [Act.put, List.setIfInBounds_toArray, List.set_cons_zero, List.set_cons_succ]
  refine step1 4 (by kernel_rfl) rfl (fun K hK => ?_)
  go_simp
  refine Calls.mono (Add_num a b ha hb _ (HG.out.lain hH.2).tb) ?_
  rintro e w14 ⟨rfl, hg⟩
  dsimp only
  refine hK.out _ _ ⟨hH.1.lain (Lain.of hg), hH.2.trans (Lain.of hg)⟩ (fun hH => ?_)
  clear hK K hg
  refine step1 9 (by kernel_rfl) rfl (fun K hK => ?_)
  go_simp
  refine Calls.mono (refAdd_num a b ha hb _ (HG.out.lain hH.2).od) ?_
  rintro e w19 ⟨rfl, hg⟩
  dsimp only
  refine hK.out _ _ ⟨hH.1.lain (Lain.of hg), hH.2.trans (Lain.of hg)⟩ (fun hH => ?_)
  clear hK K hg
  refine takeV 10 (.bool true) rfl (by kernel_rfl) (by kernel_rfl) (by kernel_rfl) (fun _ _ _ h => h) (by rfl) (fun w _ => exec_eql_same rfl (sadd a b) (sadd a b) rfl rfl (sadd_lt a b) (sadd_lt a b) rfl w) hH ?_
  simp only [Act.put, List.setIfInBounds_toArray, List.set_cons_zero, List.set_cons_succ]
  refine takeV 11 (.bool true) rfl (by kernel_rfl) (by kernel_rfl) (by kernel_rfl) (fun _ _ _ h => h) (by rfl) (fun w _ => by first | rfl | (go_simp; done)) hH ?_
  simp only [Act.put, List.setIfInBounds_toArray, List.set_cons_zero, List.set_cons_succ]
  refine wpAnyH_done (by kernel_rfl) ?_ _
  refine NoPanic.normal ?_
  repeat go_step
  go_ret
  exact ⟨rfl, hH.2⟩

set_option maxRecDepth 100000 in
set_option maxHeartbeats 1000000 in
theorem plays_neg (a b c u : Nat) (n : Int) (d : Value) (ha : a < M) (_hb : b < M) (_hc : c < M) (_hu : u < M * M) (w : World) (hG : GS w) :
    Calls Tryd.prog 38 #[.agg (opc 5 a b c u n d).toArray] w fun e w' => e = .returned (.bool true) ∧ Lain w w' := by
  have h0 := ox_new w 5 a b c u n d 51
  have HG := Hid.of hG
  clear hG
  have hk := h0.1.rk
  go_enter Tryd.func38, Tryd.ntmps38
  go_wp2
  generalize (w.alloc (.cells (opc 5 a b c u n d).toArray 51)) = W0 at *
  clear hk
  refine wp_region_noPanic ?_
  refine wp_region_held_drew (S := fun w' => OZ w' w.heap.size 5 a b c u n d ∧ Lain w w') (by kernel_rfl) ⟨h0.1.drew, h0.2⟩ (fun hH => ?_)
  clear h0
  refine takeV 0 (.pointer (some ⟨w.heap.size, 1, none⟩)) rfl (by kernel_rfl) (by kernel_rfl) (by kernel_rfl) (fun _ _ _ h => h) (by rfl) (fun w _ => by first | rfl | (go_simp; done)) hH ?_
  simp only [Act.put, List.setIfInBounds_toArray, List.set_cons_zero, List.set_cons_succ]
  refine take32o 1 a w.heap.size 1 rfl (by kernel_rfl) (by kernel_rfl) (by kernel_rfl) (fun _ _ _ h => h) (by rfl) rfl rfl (fun _ h => h.1.ra) hH ?_
  simp only [Act.put, List.setIfInBounds_toArray, List.set_cons_zero, List.set_cons_succ]
  refine takeV 3 (.pointer (some ⟨w.heap.size, 1, none⟩)) rfl (by kernel_rfl) (by kernel_rfl) (by kernel_rfl) (fun _ _ _ h => h) (by rfl) (fun w _ => by first | rfl | (go_simp; done)) hH ?_
  simp only [Act.put, List.setIfInBounds_toArray, List.set_cons_zero, List.set_cons_succ]
  refine take32o 4 a w.heap.size 1 rfl (by kernel_rfl) (by kernel_rfl) (by kernel_rfl) (fun _ _ _ h => h) (by rfl) rfl rfl (fun _ h => h.1.ra) hH ?_
  simp only [Act.put, List.setIfInBounds_toArray, List.set_cons_zero, List.set_cons_succ]
  refine step1 2 (by kernel_rfl) rfl (fun K hK => ?_)
  go_simp
  refine Calls.mono (Neg_num a ha _ (HG.out.lain hH.2).tb) ?_
  rintro e w12 ⟨rfl, hg⟩
  dsimp only
  refine hK.out _ _ ⟨hH.1.lain (Lain.of hg), hH.2.trans (Lain.of hg)⟩ (fun hH => ?_)
  clear hK K hg
  refine step1 5 (by kernel_rfl) rfl (fun K hK => ?_)
  go_simp
  refine Calls.mono (refNeg_num a ha _ (HG.out.lain hH.2).od) ?_
  rintro e w15 ⟨rfl, hg⟩
  dsimp only
  refine hK.out _ _ ⟨hH.1.lain (Lain.of hg), hH.2.trans (Lain.of hg)⟩ (fun hH => ?_)
  clear hK K hg
  refine takeV 6 (.bool true) rfl (by kernel_rfl) (by kernel_rfl) (by kernel_rfl) (fun _ _ _ h => h) (by rfl) (fun w _ => exec_eql_same rfl (sneg a) (sneg a) rfl rfl (modL_ltM _) (modL_ltM _) rfl w) hH ?_
  simp only [Act.put, List.setIfInBounds_toArray, List.set_cons_zero, List.set_cons_succ]
  refine takeV 7 (.bool true) rfl (by kernel_rfl) (by kernel_rfl) (by kernel_rfl) (fun _ _ _ h => h) (by rfl) (fun w _ => by first | rfl | (go_simp; done)) hH ?_
  simp only [Act.put, List.setIfInBounds_toArray, List.set_cons_zero, List.set_cons_succ]
  refine wpAnyH_done (by kernel_rfl) ?_ _
  refine NoPanic.normal ?_
  repeat go_step
  go_ret
  exact ⟨rfl, hH.2⟩

set_option maxRecDepth 100000 in
set_option maxHeartbeats 1000000 in
theorem plays_muladd (a b c u : Nat) (n : Int) (d : Value) (ha : a < M) (hb : b < M) (hc : c < M) (_hu : u < M * M) (w : World) (hG : GS w) :
    Calls Tryd.prog 38 #[.agg (opc 6 a b c u n d).toArray] w fun e w' => e = .returned (.bool true) ∧ Lain w w' := by
  have h0 := ox_new w 6 a b c u n d 51
  have HG := Hid.of hG
  clear hG
  have hk := h0.1.rk
  go_enter Tryd.func38, Tryd.ntmps38
  go_wp2
  generalize (w.alloc (.cells (opc 6 a b c u n d).toArray 51)) = W0 at *
  clear hk
  refine wp_region_noPanic ?_
  refine wp_region_held_drew (S := fun w' => OZ w' w.heap.size 6 a b c u n d ∧ Lain w w') (by kernel_rfl) ⟨h0.1.drew, h0.2⟩ (fun hH => ?_)
  clear h0
  refine takeV 0 (.pointer (some ⟨w.heap.size, 1, none⟩)) rfl (by kernel_rfl) (by kernel_rfl) (by kernel_rfl) (fun _ _ _ h => h) (by rfl) (fun w _ => by first | rfl | (go_simp; done)) hH ?_
  simp only [Act.put, List.setIfInBounds_toArray, List.set_cons_zero, List.set_cons_succ]
  refine take32o 1 a w.heap.size 1 rfl (by kernel_rfl) (by kernel_rfl) (by kernel_rfl) (fun _ _ _ h => h) (by rfl) rfl rfl (fun _ h => h.1.ra) hH ?_
  simp only [Act.put, List.setIfInBounds_toArray, List.set_cons_zero, List.set_cons_succ]
  refine takeV 2 (.pointer (some ⟨w.heap.size, 33, none⟩)) rfl (by kernel_rfl) (by kernel_rfl) (by kernel_rfl) (fun _ _ _ h => h) (by rfl) (fun w _ => by first | rfl | (go_simp; done)) hH ?_
  simp only [Act.put, List.setIfInBounds_toArray, List.set_cons_zero, List.set_cons_succ]
  refine take32o 3 b w.heap.size 33 rfl (by kernel_rfl) (by kernel_rfl) (by kernel_rfl) (fun _ _ _ h => h) (by rfl) rfl rfl (fun _ h => h.1.rb) hH ?_
  simp only [Act.put, List.setIfInBounds_toArray, List.set_cons_zero, List.set_cons_succ]
  refine takeV 4 (.pointer (some ⟨w.heap.size, 65, none⟩)) rfl (by kernel_rfl) (by kernel_rfl) (by kernel_rfl) (fun _ _ _ h => h) (by rfl) (fun w _ => by first | rfl | (go_simp; done)) hH ?_
  simp only [Act.put, List.setIfInBounds_toArray, List.set_cons_zero, List.set_cons_succ]
  refine take32o 5 c w.heap.size 65 rfl (by kernel_rfl) (by kernel_rfl) (by kernel_rfl) (fun _ _ _ h => h) (by rfl) rfl rfl (fun _ h => h.1.rc) hH ?_
  simp only [Act.put, List.setIfInBounds_toArray, List.set_cons_zero, List.set_cons_succ]
  refine takeV 7 (.pointer (some ⟨w.heap.size, 1, none⟩)) rfl (by kernel_rfl) (by kernel_rfl) (by kernel_rfl) (fun _ _ _ h => h) (by rfl) (fun w _ => by first | rfl | (go_simp; done)) hH ?_
  simp only [Act.put, List.setIfInBounds_toArray, List.set_cons_zero, List.set_cons_succ]
  refine take32o 8 a w.heap.size 1 rfl (by kernel_rfl) (by kernel_rfl) (by kernel_rfl) (fun _ _ _ h => h) (by rfl) rfl rfl (fun _ h => h.1.ra) hH ?_
  simp only [Act.put, List.setIfInBounds_toArray, List.set_cons_zero, List.set_cons_succ]
  refine takeV 9 (.pointer (some ⟨w.heap.size, 33, none⟩)) rfl (by kernel_rfl) (by kernel_rfl) (by kernel_rfl) (fun _ _ _ h => h) (by rfl) (fun w _ => by first | rfl | (go_simp; done)) hH ?_
  simp only [Act.put, List.setIfInBounds_toArray, List.set_cons_zero, List.set_cons_succ]
  refine take32o 10 b w.heap.size 33 rfl (by kernel_rfl) (by kernel_rfl) (by kernel_rfl) (fun _ _ _ h => h) (by rfl) rfl rfl (fun _ h => h.1.rb) hH ?_
  simp only [Act.put, List.setIfInBounds_toArray, List.set_cons_zero, List.set_cons_succ]
  refine takeV 11 (.pointer (some ⟨w.heap.size, 65, none⟩)) rfl (by kernel_rfl) (by kernel_rfl) (by kernel_rfl) (fun _ _ _ h => h) (by rfl) (fun w _ => by first | rfl | (go_simp; done)) hH ?_
  simp only [Act.put, List.setIfInBounds_toArray, List.set_cons_zero, List.set_cons_succ]
  refine take32o 12 c w.heap.size 65 rfl (by kernel_rfl) (by kernel_rfl) (by kernel_rfl) (fun _ _ _ h => h) (by rfl) rfl rfl (fun _ h => h.1.rc) hH ?_
  simp only [Act.put, List.setIfInBounds_toArray, List.set_cons_zero, List.set_cons_succ]
  refine step1 6 (by kernel_rfl) rfl (fun K hK => ?_)
  go_simp
  refine Calls.mono (MulAdd_num a b c ha hb hc _ (HG.out.lain hH.2).tb) ?_
  rintro e w16 ⟨rfl, hg⟩
  dsimp only
  refine hK.out _ _ ⟨hH.1.lain (Lain.of hg), hH.2.trans (Lain.of hg)⟩ (fun hH => ?_)
  clear hK K hg
  refine step1 13 (by kernel_rfl) rfl (fun K hK => ?_)
  go_simp
  refine Calls.mono (refMulAdd_num a b c ha hb hc _ (HG.out.lain hH.2).od) ?_
  rintro e w23 ⟨rfl, hg⟩
  dsimp only
  refine hK.out _ _ ⟨hH.1.lain (Lain.of hg), hH.2.trans (Lain.of hg)⟩ (fun hH => ?_)
  clear hK K hg
  refine takeV 14 (.bool true) rfl (by kernel_rfl) (by kernel_rfl) (by kernel_rfl) (fun _ _ _ h => h) (by rfl) (fun w _ => exec_eql_same rfl (smad a b c) (smad a b c) rfl rfl (modL_ltM _) (modL_ltM _) rfl w) hH ?_
  simp only [Act.put, List.setIfInBounds_toArray, List.set_cons_zero, List.set_cons_succ]
  refine takeV 15 (.bool true) rfl (by kernel_rfl) (by kernel_rfl) (by kernel_rfl) (fun _ _ _ h => h) (by rfl) (fun w _ => by first | rfl | (go_simp; done)) hH ?_
  simp only [Act.put, List.setIfInBounds_toArray, List.set_cons_zero, List.set_cons_succ]
  refine wpAnyH_done (by kernel_rfl) ?_ _
  refine NoPanic.normal ?_
  repeat go_step
  go_ret
  exact ⟨rfl, hH.2⟩

set_option maxRecDepth 100000 in
set_option maxHeartbeats 1000000 in
theorem plays_clamp (a b c u : Nat) (n : Int) (d : Value) (ha : a < M) (_hb : b < M) (_hc : c < M) (_hu : u < M * M) (w : World) (hG : GS w) :
    Calls Tryd.prog 38 #[.agg (opc 8 a b c u n d).toArray] w fun e w' => e = .returned (.bool true) ∧ Lain w w' := by
  have h0 := ox_new w 8 a b c u n d 51
  have HG := Hid.of hG
  clear hG
  have hk := h0.1.rk
  go_enter Tryd.func38, Tryd.ntmps38
  go_wp2
  generalize (w.alloc (.cells (opc 8 a b c u n d).toArray 51)) = W0 at *
  clear hk
  refine wp_region_noPanic ?_
  refine wp_region_held_drew (S := fun w' => OZ w' w.heap.size 8 a b c u n d ∧ Lain w w') (by kernel_rfl) ⟨h0.1.drew, h0.2⟩ (fun hH => ?_)
  clear h0
  refine takeV 0 (.pointer (some ⟨w.heap.size, 1, none⟩)) rfl (by kernel_rfl) (by kernel_rfl) (by kernel_rfl) (fun _ _ _ h => h) (by rfl) (fun w _ => by first | rfl | (go_simp; done)) hH ?_
  simp only [Act.put, List.setIfInBounds_toArray, List.set_cons_zero, List.set_cons_succ]
  refine take32o 1 a w.heap.size 1 rfl (by kernel_rfl) (by kernel_rfl) (by kernel_rfl) (fun _ _ _ h => h) (by rfl) rfl rfl (fun _ h => h.1.ra) hH ?_
  simp only [Act.put, List.setIfInBounds_toArray, List.set_cons_zero, List.set_cons_succ]
  refine takeV 3 (.pointer (some ⟨w.heap.size, 1, none⟩)) rfl (by kernel_rfl) (by kernel_rfl) (by kernel_rfl) (fun _ _ _ h => h) (by rfl) (fun w _ => by first | rfl | (go_simp; done)) hH ?_
  simp only [Act.put, List.setIfInBounds_toArray, List.set_cons_zero, List.set_cons_succ]
  refine take32o 4 a w.heap.size 1 rfl (by kernel_rfl) (by kernel_rfl) (by kernel_rfl) (fun _ _ _ h => h) (by rfl) rfl rfl (fun _ h => h.1.ra) hH ?_
  simp only [Act.put, List.setIfInBounds_toArray, List.set_cons_zero, List.set_cons_succ]
  refine step1 2 (by kernel_rfl) rfl (fun K hK => ?_)
  go_simp
  refine Calls.mono (Clamp_num a _) ?_
  rintro e w12 ⟨rfl, hg⟩
  dsimp only
  refine hK.out _ _ ⟨hH.1.lain (Lain.of hg), hH.2.trans (Lain.of hg)⟩ (fun hH => ?_)
  clear hK K hg
  refine step1 5 (by kernel_rfl) rfl (fun K hK => ?_)
  go_simp
  refine Calls.mono (refClamp_num a _) ?_
  rintro e w15 ⟨rfl, hg⟩
  dsimp only
  refine hK.out _ _ ⟨hH.1.lain (Lain.of hg), hH.2.trans (Lain.of hg)⟩ (fun hH => ?_)
  clear hK K hg
  refine takeV 6 (.bool true) rfl (by kernel_rfl) (by kernel_rfl) (by kernel_rfl) (fun _ _ _ h => h) (by rfl) (fun w _ => exec_eql_same rfl (cl a) (cl a) rfl rfl (cl_lt ha) (cl_lt ha) rfl w) hH ?_
  simp only [Act.put, List.setIfInBounds_toArray, List.set_cons_zero, List.set_cons_succ]
  refine takeV 7 (.bool true) rfl (by kernel_rfl) (by kernel_rfl) (by kernel_rfl) (fun _ _ _ h => h) (by rfl) (fun w _ => by first | rfl | (go_simp; done)) hH ?_
  simp only [Act.put, List.setIfInBounds_toArray, List.set_cons_zero, List.set_cons_succ]
  refine wpAnyH_done (by kernel_rfl) ?_ _
  refine NoPanic.normal ?_
  repeat go_step
  go_ret
  exact ⟨rfl, hH.2⟩

set_option maxRecDepth 100000 in
set_option maxHeartbeats 1000000 in
theorem plays_order (a b c u : Nat) (n : Int) (d : Value) (_ha : a < M) (_hb : b < M) (_hc : c < M) (_hu : u < M * M) (w : World) (hG : GS w) :
    Calls Tryd.prog 38 #[.agg (opc 1 a b c u n d).toArray] w fun e w' => e = .returned (.bool true) ∧ Lain w w' := by
  have h0 := ox_new w 1 a b c u n d 51
  have HG := Hid.of hG
  clear hG
  have hk := h0.1.rk
  go_enter Tryd.func38, Tryd.ntmps38
  go_wp2_with fail
  generalize (w.alloc (.cells (opc 1 a b c u n d).toArray 51)) = W0 at *
  have H0 := Hid.of h0.2
  clear h0 hk
  refine Calls.mono (Order_num W0 (HG.out.lain H0.out).tb) ?_
  rintro e w1 ⟨rfl, hg1⟩
  dsimp only
  have H1 := Hid.of (H0.out.trans (Lain.of hg1))
  clear hg1 H0
  go_wp2_with fail
  refine Calls.mono (refOrder_num w1 (HG.out.lain H1.out).od) ?_
  rintro e w2 ⟨rfl, hg2⟩
  dsimp only
  have H2 := Hid.of (H1.out.trans (Lain.of hg2))
  clear hg2 H1
  go_wp2_with (with_reducible show wpList _ _ _ ({ dst := _, op := Op.binOp .eql 23 _ _ _, type := _, pos := _, after := _, guard := _ } :: _) _ _; refine Shut.out ?_)
  show wpList _ _ _ _ _ _
  refine wpList_val (.bool true) rfl (exec_eql_same rfl L L rfl rfl L_lt_M L_lt_M rfl _) ?_
  simp only [Act.put, List.setIfInBounds_toArray, List.set_cons_zero, List.set_cons_succ]
  go_wp2
  go_ret
  exact ⟨rfl, H2.out⟩

set_option maxRecDepth 100000 in
set_option maxHeartbeats 1000000 in
theorem plays_invert (a b c u : Nat) (n : Int) (d : Value) (ha : a < M) (_hb : b < M) (_hc : c < M) (_hu : u < M * M) (w : World) (hG : GS w) :
    Calls Tryd.prog 38 #[.agg (opc 7 a b c u n d).toArray] w fun e w' => e = .returned (.bool true) ∧ Lain w w' := by
  have h0 := ox_new w 7 a b c u n d 51
  have HG := Hid.of hG
  clear hG
  have hk := h0.1.rk
  go_enter Tryd.func38, Tryd.ntmps38
  go_wp2_with (with_reducible show wpList _ _ _ ({ dst := _, op := Op.load 23 _, type := _, pos := _, after := _, guard := _ } :: _) _ _; refine Shut.out ?_)
  show wpList _ _ _ _ _ _
  generalize (w.alloc (.cells (opc 7 a b c u n d).toArray 51)) = W0 at *
  have H0 := Hid.of h0
  clear h0 hk
  refine wpList_load32o rfl _ rfl w.heap.size 1 rfl a H0.out.1.ra ?_
  simp only [Act.put, List.setIfInBounds_toArray, List.set_cons_zero, List.set_cons_succ]
  go_wp2_with fail
  refine Calls.mono (Invert_num a ha W0 (HG.out.lain H0.out.2).tb) ?_
  rintro e w1 ⟨rfl, hg1⟩
  dsimp only
  have H1 := Hid.of (And.intro (H0.out.1.lain (Lain.of hg1)) (H0.out.2.trans (Lain.of hg1)))
  clear hg1 H0
  go_wp2_with (with_reducible show wpList _ _ _ ({ dst := _, op := Op.store 23 _ _, type := _, pos := _, after := _, guard := _ } :: _) _ _; refine Shut.out ?_)
  show wpList _ _ _ _ _ _
  refine wpList_store_new (sinv a) (by simp) rfl rfl rfl rfl (fun w2 hg2 hr2 _ => ?_)
  simp only [Act.put]
  have H2 := Hid.of (And.intro (H1.out.1.lain (Lain.of hg2)) (And.intro hr2 (H1.out.2.trans (Lain.of hg2))))
  clear H1 hg2 hr2
  generalize w1.heap.size = b3 at *
  apply wpList_nil
  go_wp2_with (with_reducible show wpList _ _ _ ({ dst := _, op := Op.load 23 _, type := _, pos := _, after := _, guard := _ } :: _) _ _; refine Shut.out ?_)
  show wpList _ _ _ _ _ _
  refine wpList_load32o rfl _ rfl w.heap.size 1 rfl a H2.out.1.ra ?_
  simp only [Act.put, List.setIfInBounds_toArray, List.set_cons_zero, List.set_cons_succ]
  refine wpList_load32 rfl _ rfl b3 rfl (sinv a) H2.out.2.1 ?_
  simp only [Act.put, List.setIfInBounds_toArray, List.set_cons_zero, List.set_cons_succ]
  go_wp2_with fail
  refine Calls.mono (isInverse_num a ha w2 (HG.out.lain H2.out.2.2).od) ?_
  rintro e w3 ⟨rfl, hg3⟩
  dsimp only
  have H3 := Hid.of (H2.out.2.2.trans (Lain.of hg3))
  clear H2 hg3
  go_wp2
  go_ret
  exact ⟨rfl, H3.out⟩

set_option maxRecDepth 100000 in
set_option maxHeartbeats 1000000 in
theorem plays_none (k : Int) (a b c u : Nat) (n : Int) (d : Value) (hk0 : k < 1 ∨ 10 < k) (w : World) :
    Calls Tryd.prog 38 #[.agg (opc k a b c u n d).toArray] w fun e w' => e = .returned (.bool true) ∧ Lain w w' := by
  have h0 := ox_new w k a b c u n d 51
  have hk := h0.1.rk
  have H0 := Hid.of h0.2
  clear h0
  have e1 : (k == 1) = false := by simp; omega
  have e2 : (k == 2) = false := by simp; omega
  have e3 : (k == 3) = false := by simp; omega
  have e4 : (k == 4) = false := by simp; omega
  have e5 : (k == 5) = false := by simp; omega
  have e6 : (k == 6) = false := by simp; omega
  have e7 : (k == 7) = false := by simp; omega
  have e8 : (k == 8) = false := by simp; omega
  have e9 : (k == 9) = false := by simp; omega
  have e10 : (k == 10) = false := by simp; omega
  clear hk0
  go_enter Tryd.func38, Tryd.ntmps38
  go_wp2
  go_ret
  exact ⟨rfl, H0.out⟩
end Go.Proofs.YteijccjdejjbjaaDoor
namespace Go.Proofs.YteijccjdejjbjaaDoor
open Go.RowKit Go.Shelf ScalarNum

/-- the digits so far -/
def dl (w X i : Nat) : List Value := (List.range 257).map fun j => .int .i8 (if j < i then dn w X j else 0)
theorem dl_length (w X i : Nat) : (dl w X i).length = 257 := by simp [dl]
theorem dl_get (w X i j : Nat) (h : j < 257) : (dl w X i)[j]? = some (.int .i8 (if j < i then dn w X j else 0)) := by simp [dl, h]
theorem dl_set (w X i : Nat) (h : i < 257) : (dl w X i).set i (.int .i8 (dn w X i)) = dl w X (i + 1) := by
  apply List.ext_getElem?
  intro j
  rw [List.getElem?_set, dl_length]
  by_cases hj : j < 257
  · rw [dl_get _ _ _ _ hj, dl_get _ _ _ _ hj]
    by_cases e : i = j
    · subst e
      rw [if_pos rfl, if_pos h, if_pos (by omega)]
    · rw [if_neg e]
      by_cases hlt : j < i
      · rw [if_pos hlt, if_pos (by omega)]
      · rw [if_neg hlt, if_neg (by omega)]
  · rw [if_neg (by omega), List.getElem?_eq_none (by rw [dl_length]; omega), List.getElem?_eq_none (by rw [dl_length]; omega)]
theorem dl_same (w X i : Nat) (h : dn w X i = 0) : dl w X (i + 1) = dl w X i := by
  unfold dl
  apply List.map_congr_left
  intro j _
  by_cases e : j = i
  · subst e; rw [if_pos (by omega), if_neg (by omega), h]
  · by_cases hlt : j < i
    · rw [if_pos hlt, if_pos (by omega)]
    · rw [if_neg hlt, if_neg (by omega)]

theorem hI8d : ∃ i, Tryd.prog.info? 40 = some i ∧ i.zero = some (.int .i8 0) ∧ i.size = 1 ∧ i.bytes = 1 := by
  obtain ⟨i, hi⟩ : ∃ i, Tryd.prog.info? 40 = some i := Option.isSome_iff_exists.1 (by kernel_rfl)
  have h1 : (Tryd.prog.info? 40).map (fun i => (i.zero, i.size, i.bytes)) = some (some (.int .i8 0), 1, 1) := by kernel_rfl
  rw [hi] at h1
  simp at h1
  exact ⟨i, hi, h1.1, h1.2.1, h1.2.2⟩
theorem made_eq (X w : Nat) : madeCells (Value.int .i8 0).cells 257 = (dl w X 0).toArray := by
  have h : ∀ j : Nat, (dl w X 0)[j]? = (madeCells (Value.int .i8 0).cells 257).toList[j]? := by
    have e : dl w X 0 = List.replicate 257 (.int .i8 0) := by
      apply List.ext_getElem?
      intro j
      by_cases hj : j < 257
      · rw [dl_get _ _ _ _ hj, if_neg (by omega), List.getElem?_replicate, if_pos hj]
      · rw [List.getElem?_eq_none (by rw [dl_length]; omega), List.getElem?_eq_none (by rw [List.length_replicate]; omega)]
    rw [e]
    intro j
    have : (madeCells (Value.int .i8 0).cells 257).toList = List.replicate 257 (.int .i8 0) := by kernel_rfl
    rw [this]
  have h2 : (madeCells (Value.int .i8 0).cells 257).toList = dl w X 0 := (List.ext_getElem? h).symm
  rw [← h2]

theorem wpList_make {ops : Array Oper} {rest : List Oper} {o : Oper} {a : Act} {w : World} {Q : Exit → Act → World → Prop} (X k : Nat) (hgd : o.guard = none) (ho : o.op = .makeSlice 30 (.const (.int .i64 257)) (.const (.int .i64 257)))
    (h : wpList Tryd.prog ops Q rest (a.put o.dst (.slice (some ⟨w.heap.size, 0, none⟩) 257 257)) (w.alloc (.cells (dl k X 0).toArray 40))) : wpList Tryd.prog ops Q (o :: rest) a w := by
  obtain ⟨i, h1, h2, h3, h4⟩ := hI8d
  have hr := run_makeSlice (P := Tryd.prog) w 30 40 i (.int .i8 0) Tryd.underlying30 h1 h2 .i64 .i64 257 257 (by decide) (by decide) (by rw [h3]; decide) (by rw [h4]; decide) (by decide)
  rw [h3, show (257 : Int).toNat * 1 = 257 from rfl, made_eq X k] at hr
  refine wpList_plain hgd fun K hK => ?_
  unfold Oper.wp execOp
  simp only [ho, Act.eval, Sem.run_bind, hr, Result.andThen_ok, Sem.run_pure]
  exact hK _ _ h

structure DX (w0 : World) (bd k X i : Nat) (wr : World) : Prop where
  rx : wr.rangeAt w0.heap.size 0 (wl 4 (nn k X i))
  tx : wr.there w0.heap.size 0 4
  rd : wr.rangeAt bd 0 (dl k X i)
  td : wr.there bd 0 257
  lt : w0.heap.size < bd
  gw : Grown w0 wr

theorem nd_even {k N : Nat} (h : N % 2 = 0) : nd k N = 0 ∧ nq k N = N := by unfold nd nq; rw [if_pos h, if_pos h]; exact ⟨rfl, rfl⟩
theorem M_256 : M = 2 ^ 256 := by decide
theorem low_bit (n : Nat) : dg B n 0 % 2 = n % 2 := by
  unfold dg
  rw [Nat.pow_zero, Nat.div_one]
  show n % 18446744073709551616 % 2 = n % 2
  omega

set_option maxRecDepth 100000 in
set_option maxHeartbeats 4000000 in
theorem digitsOf_num (X k : Nat) (hX : X < M) (hk : 2 ≤ k) (hk8 : k ≤ 8) (w : World) :
    Calls Tryd.prog 49 #[wv 4 X, .int .i64 (k : Int)] w fun e w' => (∃ g, e = .returned (.slice (some ⟨g, 0, none⟩) 257 257) ∧ w.heap.size ≤ g ∧ w'.rangeAt g 0 (dl k X 257) ∧ w'.there g 0 257) ∧ Grown w w' := by
  have hX2 : X < 2 ^ 256 := by rw [← M_256]; exact hX
  have h0 : (w.alloc (.cells (wl 4 X).toArray 62)).rangeAt w.heap.size 0 (wl 4 X) ∧ (w.alloc (.cells (wl 4 X).toArray 62)).there w.heap.size 0 4 ∧ Grown w (w.alloc (.cells (wl 4 X).toArray 62)) ∧ (w.alloc (.cells (wl 4 X).toArray 62)).heap.size = w.heap.size + 1 :=
    ⟨rangeAt_alloc_new w 62 (wl 4 X), there_alloc_new w 62 (wl 4 X).toArray 4 (by rw [List.size_toArray, wl_length]; exact Nat.le_refl _), Grown.alloc (Grown.refl _) _ _, by simp⟩
  have HX := Hid.of (And.intro hX hX2)
  clear hX hX2
  rw [wv]
  go_enter Tryd.func49, Tryd.ntmps49
  go_wp2_with (with_reducible show wpList _ _ _ ({ dst := _, op := Op.makeSlice _ _ _, type := _, pos := _, after := _, guard := _ } :: _) _ _; refine Shut.out ?_)
  show wpList _ _ _ _ _ _
  generalize (w.alloc (.cells (wl 4 X).toArray 62)) = W0 at *
  refine wpList_make X k rfl rfl ?_
  simp only [Act.put, List.setIfInBounds_toArray, List.set_cons_zero, List.set_cons_succ]
  have g1 : Grown W0 (W0.alloc (.cells (dl k X 0).toArray 40)) := Grown.alloc (Grown.refl _) _ _
  have H0 := Hid.of (show DX w W0.heap.size k X 0 (W0.alloc (.cells (dl k X 0).toArray 40)) from
    ⟨rangeAt_grown h0.1 g1, there_grown h0.2.1 g1, rangeAt_alloc_new W0 40 (dl k X 0), there_alloc_new W0 40 (dl k X 0).toArray 257 (by rw [List.size_toArray, dl_length]; exact Nat.le_refl _), by rw [h0.2.2.2]; exact Nat.lt_succ_self _, grown_trans h0.2.2.1 g1⟩)
  clear h0 g1
  generalize W0.alloc (.cells (dl k X 0).toArray 40) = W1 at *
  generalize W0.heap.size = bd at *
  go_wp2
  go_loopw [9] (fun v9 wr => ∃ i : Nat, v9 = .int .i64 (i : Int) ∧ i ≤ 257 ∧ DX w bd k X i wr) (fun v9 _ => 257 - (intOf v9).toNat)
  case atStart => exact ⟨0, rfl, by decide, H0.out⟩
  case round =>
    obtain ⟨i, rfl, hi, hD⟩ := hrel
    clear H0
    have HD := Hid.of hD
    clear hD
    by_cases hlt : i < 257
    · have b1 : (i : Int) < 257 := Int.ofNat_lt.2 hlt
      have hN : nn k X i < M := by rw [M_256]; exact nn_lt hk HX.out.2 hi
      have d1 : wr.cell? ⟨w.heap.size, 0, none⟩ = some (.int .u64 (dg B (nn k X i) 0 : Nat)) := HD.out.rx 0 _ (wl_get 4 _ 0 (by decide))
      have hd : dg B (nn k X i) 0 < B := dg_lt B_pos
      have ha := and1 _ hd
      rw [low_bit] at ha
      have hnx : nn k X (i + 1) = nq k (nn k X i) / 2 := rfl
      have hdn : dn k X i = nd k (nn k X i) := rfl
      have HN := Hid.of (And.intro hN (And.intro hnx hdn))
      generalize dg B (nn k X i) 0 = x0 at *
      clear hnx hdn hd
      by_cases hev : nn k X i % 2 = 0
      · obtain ⟨e1, e2⟩ := nd_even (k := k) hev
        rw [hev] at ha
        have HE := Hid.of (And.intro e1 e2)
        clear e1 e2 hev hN
        go_wp2_with fail
        refine Calls.mono (halve_num w.heap.size (nn k X i) 0 HN.out.1 (by decide) _ HD.out.rx HD.out.tx) ?_
        rintro e w3 ⟨rfl, g3, r3, t3⟩
        have hlt2 := HD.out.lt
        have HD2 := Hid.of (show DX w bd k X (i + 1) w3 from ⟨by rw [HN.out.2.1, HE.out.2]; rw [Nat.zero_mul, Nat.add_zero] at r3; exact r3, t3, by rw [dl_same k X i (by rw [HN.out.2.2]; exact HE.out.1)]; exact g3.range HD.out.rd (by omega), g3.there HD.out.td (by omega), HD.out.lt, GB.own HD.out.gw (Nat.le_refl _) g3⟩)
        clear g3 r3 t3 HD HE HN d1 ha hlt2
        dsimp only
        go_wp2
        go_roundw
        case rel => exact ⟨i + 1, by go_num, by omega, HD2.out⟩
        case measure => simp [intOf]; omega
      · have hodd : nn k X i % 2 = 1 := by
          have := Nat.mod_lt (nn k X i) (show 0 < 2 by decide)
          generalize nn k X i % 2 = t at *
          clear ha d1 hN HN HD
          omega
        rw [hodd] at ha
        have HO := Hid.of hev
        clear hodd hev hN
        go_wp2_with fail
        refine Calls.mono (part_num w.heap.size (nn k X i) k HN.out.1 HO.out hk hk8 _ HD.out.rx HD.out.tx) ?_
        rintro e w3 ⟨⟨v, c, rfl, r3, s3, v3, c3⟩, g3, t3⟩
        have hlt2 := HD.out.lt
        have f1 : w3.frozen? ⟨bd, i, none⟩ = false := by
          have := ((g3.there HD.out.td (by omega)) i hlt).2; rwa [Nat.zero_add] at this
        have f2 := (g3.range HD.out.rd (by omega)) i _ (dl_get k X i i hlt)
        rw [Nat.zero_add] at f2
        generalize (Value.int IntKind.i8 (if i < i then dn k X i else 0)) = u0 at f2
        have HP := Hid.of (show (w3.setCell ⟨bd, i, none⟩ (.int .i8 (nd k (nn k X i)))).rangeAt w.heap.size 0 (wl 4 v) ∧ (w3.setCell ⟨bd, i, none⟩ (.int .i8 (nd k (nn k X i)))).there w.heap.size 0 4 ∧ (w3.setCell ⟨bd, i, none⟩ (.int .i8 (nd k (nn k X i)))).rangeAt bd 0 (dl k X (i + 1)) ∧ (w3.setCell ⟨bd, i, none⟩ (.int .i8 (nd k (nn k X i)))).there bd 0 257 ∧ Grown w (w3.setCell ⟨bd, i, none⟩ (.int .i8 (nd k (nn k X i)))) from by
          refine ⟨range_put r3 _ _ (by omega) _, there_setCell t3 _ _, ?_, there_setCell (g3.there HD.out.td (by omega)) _ _, Grown.setCell (GB.own HD.out.gw (Nat.le_refl _) g3) (by show _ ≤ bd; omega) _⟩
          rw [← dl_set k X i hlt, HN.out.2.2]
          exact range_set (g3.range HD.out.rd (by omega)) i (by rw [dl_length]; exact hlt) _)
        have HS := Hid.of (And.intro s3 (And.intro v3 c3))
        clear r3 s3 v3 c3 g3 t3 d1 ha
        dsimp only
        go_wp2_with fail
        generalize (w3.setCell ⟨bd, i, none⟩ (.int .i8 (nd k (nn k X i)))) = w4 at *
        refine Calls.mono (halve_num w.heap.size v c HS.out.2.1 HS.out.2.2 _ HP.out.1 HP.out.2.1) ?_
        rintro e w5 ⟨rfl, g5, r5, t5⟩
        rw [HS.out.1] at r5
        have HD2 := Hid.of (show DX w bd k X (i + 1) w5 from ⟨by rw [HN.out.2.1]; exact r5, t5, g5.range HP.out.2.2.1 (by omega), g5.there HP.out.2.2.2.1 (by omega), HD.out.lt, GB.own HP.out.2.2.2.2 (Nat.le_refl _) g5⟩)
        clear g5 r5 t5 HD HP HN HS HO f1 f2 hlt2
        dsimp only
        go_wp2
        go_roundw
        case rel => exact ⟨i + 1, by go_num, by omega, HD2.out⟩
        case measure => simp [intOf]; omega
    · have hi7 : i = 257 := by omega
      subst hi7
      go_wp2
      go_ret
      exact ⟨⟨bd, rfl, Nat.le_of_lt HD.out.lt, HD.out.rd, HD.out.td⟩, HD.out.gw⟩
end Go.Proofs.YteijccjdejjbjaaDoor
namespace ScalarNum

theorem adds_step {X N N' : Nat} {d c : Int} {i : Nat} (hN : (N : Int) = d + 2 * (N' : Int)) (hc : c = ((X / 2 ^ i : Nat) : Int) - (N : Int)) (hb : -256 ≤ c ∧ c ≤ 256) (hd : -128 ≤ d ∧ d ≤ 128) :
    c + d - ((X / 2 ^ i % 2 : Nat) : Int) = 2 * (((X / 2 ^ (i + 1) : Nat) : Int) - (N' : Int)) ∧ -256 ≤ ((X / 2 ^ (i + 1) : Nat) : Int) - (N' : Int) ∧ ((X / 2 ^ (i + 1) : Nat) : Int) - (N' : Int) ≤ 256 ∧ X / 2 ^ i % 2 ≤ 1 := by
  rw [Nat.pow_succ, ← Nat.div_div_eq_div_mul]
  generalize X / 2 ^ i = q at *
  omega
theorem tmod_two (z : Int) : (2 * z).tmod 2 = 0 := Int.mul_tmod_right 2 z
theorem tdiv_two (z : Int) : (2 * z).tdiv 2 = z := Int.mul_tdiv_cancel_left z (by decide)
theorem tmod_odd {z : Int} (h : z % 2 = 1) : ¬ z.tmod 2 = 0 := by
  intro e
  have := Int.dvd_of_tmod_eq_zero e
  omega

/-- the sign of the form: how many low bits of the number are 0 -/
def Zs (k X i : Nat) (last : Int) : Prop := ∀ m : Nat, (m : Int) + ((i : Int) - last) ≤ (k : Int) → nn k X i % 2 ^ m = 0
theorem Zs_start (k X : Nat) : Zs k X 0 (-(k : Int)) := by
  intro m hm
  have : m = 0 := by omega
  subst this
  rw [Nat.pow_zero, Nat.mod_one]
theorem nd_zero_iff {k N : Nat} (hk : 1 ≤ k) : nd k N = 0 ↔ N % 2 = 0 := by
  constructor
  · intro h
    have h2 := nq_eq k N
    have h3 := nq_even (N := N) hk
    rw [h] at h2
    have : nq k N = N := by omega
    rwa [this] at h3
  · intro h; unfold nd; rw [if_pos h]
theorem half_zero {N m : Nat} (h : N % 2 ^ (m + 1) = 0) : N / 2 % 2 ^ m = 0 := by
  have h1 := Nat.div_add_mod N (2 ^ (m + 1))
  rw [h, Nat.add_zero, Nat.pow_succ] at h1
  rw [← h1, show 2 ^ m * 2 * (N / (2 ^ m * 2)) = 2 * (2 ^ m * (N / (2 ^ m * 2))) by rw [Nat.mul_comm (2 ^ m) 2, Nat.mul_assoc], Nat.mul_div_cancel_left _ (by decide), Nat.mul_mod_right]
theorem Zs_even {k X i : Nat} {last : Int} (hk : 1 ≤ k) (h : Zs k X i last) (hd : dn k X i = 0) : Zs k X (i + 1) last := by
  intro m hm
  have he : nn k X i % 2 = 0 := (nd_zero_iff hk).1 hd
  have h1 := h (m + 1) (by omega)
  show nq k (nn k X i) / 2 % 2 ^ m = 0
  have : nq k (nn k X i) = nn k X i := by unfold nq; rw [if_pos he]
  rw [this]
  exact half_zero h1
theorem nq_mult {k N : Nat} (h : ¬ N % 2 = 0) : nq k N % 2 ^ k = 0 := by
  have h1 := Nat.div_add_mod N (2 ^ k)
  have h2 : N - N % 2 ^ k = 2 ^ k * (N / 2 ^ k) := by
    generalize 2 ^ k * (N / 2 ^ k) = q at *
    omega
  unfold nq
  rw [if_neg h]
  split
  · rw [h2]; exact Nat.mul_mod_right _ _
  · rw [h2, Nat.add_mod_right]; exact Nat.mul_mod_right _ _
theorem Zs_odd {k X i : Nat} (hk : 1 ≤ k) (hd : ¬ dn k X i = 0) : Zs k X (i + 1) (i : Int) := by
  intro m hm
  have he : ¬ nn k X i % 2 = 0 := fun h => hd ((nd_zero_iff hk).2 h)
  have h1 := nq_mult (k := k) he
  show nq k (nn k X i) / 2 % 2 ^ m = 0
  have hm2 : m + 1 ≤ k := by omega
  apply half_zero
  obtain ⟨t, ht⟩ : ∃ t, 2 ^ k = 2 ^ (m + 1) * 2 ^ t := ⟨k - (m + 1), by rw [← Nat.pow_add]; congr 1; omega⟩
  have h3 := Nat.div_add_mod (nq k (nn k X i)) (2 ^ k)
  rw [h1, Nat.add_zero, ht, Nat.mul_assoc] at h3
  rw [← h3, Nat.mul_mod_right]
theorem Zs_gap {k X i : Nat} {last : Int} (hk : 1 ≤ k) (h : Zs k X i last) (hd : ¬ dn k X i = 0) : ¬ (i : Int) - last < (k : Int) := by
  intro hlt
  have he : ¬ nn k X i % 2 = 0 := fun h => hd ((nd_zero_iff hk).2 h)
  have := h 1 (by omega)
  rw [Nat.pow_one] at this
  exact he this
theorem dn_within {k X i : Nat} (hk : 2 ≤ k) (hd : ¬ dn k X i = 0) : dn k X i % 2 = 1 ∧ ¬ ((2 ^ (k - 1) : Nat) : Int) ≤ dn k X i ∧ ¬ dn k X i ≤ -((2 ^ (k - 1) : Nat) : Int) := by
  obtain ⟨h1, h2, h3⟩ := nd_bounds (w := k) (N := nn k X i) (by omega)
  obtain ⟨_, h4⟩ := h3 hd
  have he : ∃ t, 2 ^ (k - 1) = 2 * t := ⟨2 ^ (k - 2), by rw [← Nat.pow_succ']; congr 1; omega⟩
  obtain ⟨t, ht⟩ := he
  unfold dn
  rw [ht] at h1 h2 ⊢
  generalize nd k (nn k X i) = d at *
  omega
theorem dn_small {k X i : Nat} (hk : 2 ≤ k) (hk8 : k ≤ 8) : -128 ≤ dn k X i ∧ dn k X i ≤ 128 := by
  obtain ⟨h1, h2, _⟩ := nd_bounds (w := k) (N := nn k X i) (by omega)
  have h3 : 2 ^ (k - 1) ≤ 2 ^ 7 := Nat.pow_le_pow_right (by decide) (by omega)
  unfold dn
  generalize 2 ^ (k - 1) = H at *
  generalize nd k (nn k X i) = d at *
  omega
theorem dn_i8 {k X i : Nat} (hk : 2 ≤ k) (hk8 : k ≤ 8) : -128 ≤ dn k X i ∧ dn k X i ≤ 127 := by
  have h1 := dn_small (X := X) (i := i) hk hk8
  by_cases h : dn k X i = 0
  · omega
  · have h2 := dn_within (i := i) hk h
    have h3 : 2 ^ (k - 1) ≤ 2 ^ 7 := Nat.pow_le_pow_right (by decide) (by omega)
    generalize 2 ^ (k - 1) = H at *
    omega
end ScalarNum
namespace Go.Proofs.YteijccjdejjbjaaDoor
open Go.RowKit Go.Shelf ScalarNum

/-- a slice of 257 digits -/
def DS (k X : Nat) (v : Value) (w : World) : Prop := ∃ g, v = .slice (some ⟨g, 0, none⟩) 257 257 ∧ w.rangeAt g 0 (dl k X 257)
theorem DS.grown {k X : Nat} {v : Value} {w w' : World} (h : DS k X v w) (hg : Grown w w') : DS k X v w' := by
  obtain ⟨g, rfl, hr⟩ := h
  exact ⟨g, rfl, rangeAt_grown hr hg⟩

set_option maxRecDepth 100000 in
set_option maxHeartbeats 1000000 in
theorem Digits_bad (X : Nat) (z : Int) (hz : z < 2 ∨ 8 < z) (w : World) :
    Calls Tryd.prog 26 #[yv 32 X, .int .i64 z] w fun e w' => e = .returned (.tuple #[.slice none 0 0, .int .i64 1]) ∧ Grown w w' := by
  have h0 : Grown w (w.alloc (.cells (yl 32 X).toArray 23)) := Grown.alloc (Grown.refl _) _ _
  have H0 := Hid.of h0
  clear h0
  rw [yv]
  by_cases h : z < 2
  · clear hz
    go_enter Tryd.func26, Tryd.ntmps26
    go_wp2
    go_ret2
    exact ⟨rfl, H0.out⟩
  · have h2 : z > 8 := hz.resolve_left h
    clear hz
    go_enter Tryd.func26, Tryd.ntmps26
    go_wp2
    go_ret2
    exact ⟨rfl, H0.out⟩

set_option maxRecDepth 100000 in
set_option maxHeartbeats 1000000 in
theorem Digits_num (X k : Nat) (hX : X < M) (hk : 2 ≤ k) (hk8 : k ≤ 8) (w : World) :
    Calls Tryd.prog 26 #[yv 32 X, .int .i64 (k : Int)] w fun e w' => (∃ v, e = .returned (.tuple #[v, .int .i64 0]) ∧ DS k X v w') ∧ Grown w w' := by
  have h0 : (w.alloc (.cells (yl 32 X).toArray 23)).rangeAt w.heap.size 0 (yl 32 X) ∧ Grown w (w.alloc (.cells (yl 32 X).toArray 23)) := ⟨rangeAt_alloc_new w 23 (yl 32 X), Grown.alloc (Grown.refl _) _ _⟩
  have b1 : ¬ (k : Int) < 2 := by omega
  have b2 : ¬ (8 : Int) < (k : Int) := by omega
  rw [yv]
  go_enter Tryd.func26, Tryd.ntmps26
  go_wp2_with (with_reducible show wpList _ _ _ ({ dst := _, op := Op.load 23 _, type := _, pos := _, after := _, guard := _ } :: _) _ _; refine Shut.out ?_)
  show wpList _ _ _ _ _ _
  generalize (w.alloc (.cells (yl 32 X).toArray 23)) = W0 at *
  have H0 := Hid.of h0
  clear h0
  refine wpList_load32 rfl _ rfl w.heap.size rfl X H0.out.1 ?_
  simp only [Act.put, List.setIfInBounds_toArray, List.set_cons_zero, List.set_cons_succ]
  go_wp2_with fail
  refine Calls.mono (load_num X hX _) ?_
  rintro e w1 ⟨rfl, g1⟩
  dsimp only
  go_wp2_with fail
  refine Calls.mono (digitsOf_num X k hX hk hk8 _) ?_
  rintro e w2 ⟨⟨g, rfl, hg, hr, ht⟩, g2⟩
  dsimp only
  have H2 := Hid.of (And.intro hr (grown_trans H0.out.2 (grown_trans g1 g2)))
  clear hr ht hg g1 g2 H0
  go_wp2
  go_ret2
  exact ⟨⟨_, rfl, g, rfl, H2.out.1⟩, H2.out.2⟩

end Go.Proofs.YteijccjdejjbjaaDoor
namespace ScalarNum

theorem half_dg (Q j : Nat) : dg 256 (Q / 2) j = dg 256 Q j / 2 + dg 256 Q (j + 1) % 2 * 128 := by
  unfold dg
  have e : Q / 2 / 256 ^ j = Q / 256 ^ j / 2 := by rw [Nat.div_div_eq_div_mul, Nat.div_div_eq_div_mul, Nat.mul_comm]
  rw [e, Nat.pow_succ, ← Nat.div_div_eq_div_mul]
  generalize Q / 256 ^ j = q
  omega
theorem st_mod_next {b v k z : Nat} (hb : 0 < b) (hz : z < b) : st b v k z % b ^ (k + 1) = v % b ^ k + z * b ^ k := by
  rw [mod_succ, st_same hb hz]
  congr 1
  unfold st
  have e : v / b ^ (k + 1) * b ^ (k + 1) + z * b ^ k + v % b ^ k = v % b ^ k + (v / b ^ (k + 1) * b + z) * b ^ k := by
    rw [Nat.add_mul, Nat.pow_succ, Nat.mul_assoc _ b, Nat.mul_comm b]
    omega
  rw [e, Nat.add_mul_mod_self_right, Nat.mod_mod]
theorem half_step {cur Q j : Nat} (h1 : cur / 256 ^ j = Q / 256 ^ j) (h2 : cur % 256 ^ j = Q / 2 % 256 ^ j) :
    dg 256 cur j = dg 256 Q j ∧ dg 256 cur (j + 1) = dg 256 Q (j + 1) ∧ dg 256 Q j / 2 + dg 256 Q (j + 1) % 2 * 128 < 256 ∧
    st 256 cur j (dg 256 Q j / 2 + dg 256 Q (j + 1) % 2 * 128) / 256 ^ (j + 1) = Q / 256 ^ (j + 1) ∧
    st 256 cur j (dg 256 Q j / 2 + dg 256 Q (j + 1) % 2 * 128) % 256 ^ (j + 1) = Q / 2 % 256 ^ (j + 1) := by
  have e1 : dg 256 cur j = dg 256 Q j := by unfold dg; rw [h1]
  have h1' : cur / 256 ^ (j + 1) = Q / 256 ^ (j + 1) := div_succb h1
  have e2 : dg 256 cur (j + 1) = dg 256 Q (j + 1) := by unfold dg; rw [h1']
  have e3 : dg 256 Q j < 256 := dg_lt (by decide)
  have e4 : dg 256 Q j / 2 + dg 256 Q (j + 1) % 2 * 128 < 256 := by omega
  refine ⟨e1, e2, e4, ?_, ?_⟩
  · rw [st_div (by decide) e4]; exact h1'
  · rw [st_mod_next (by decide) e4, h2, mod_succ, half_dg]
/-- a digit is taken off, byte by byte -/
theorem off_step {cur j : Nat} {c T q : Int} {r : Nat} (h : (cur : Int) + c * ((256 ^ j : Nat) : Int) = T) (hv : ((dg 256 cur j : Nat) : Int) + c = 256 * q + (r : Int)) :
    ((st 256 cur j r : Nat) : Int) + q * ((256 ^ (j + 1) : Nat) : Int) = T := by
  have h1 := st_eq 256 cur j r
  have h2 : ((st 256 cur j r : Nat) : Int) + ((dg 256 cur j : Nat) : Int) * ((256 ^ j : Nat) : Int) = (cur : Int) + (r : Int) * ((256 ^ j : Nat) : Int) := by
    have := congrArg (fun n : Nat => (n : Int)) h1
    simpa using this
  rw [Nat.pow_succ, Int.natCast_mul]
  generalize ((256 ^ j : Nat) : Int) = P at *
  generalize ((st 256 cur j r : Nat) : Int) = s at *
  generalize ((dg 256 cur j : Nat) : Int) = w at *
  have e : w * P + c * P = 256 * q * P + (r : Int) * P := by rw [← Int.add_mul, hv, Int.add_mul]
  have e2 : q * (P * ((256 : Nat) : Int)) = 256 * q * P := by
    rw [show ((256 : Nat) : Int) = 256 from rfl, Int.mul_comm P 256, ← Int.mul_assoc, Int.mul_comm q 256]
  rw [e2]
  omega
theorem off_end {cur : Nat} {c : Int} {Q : Nat} (h : (cur : Int) + c * ((256 ^ 34 : Nat) : Int) = (Q : Int)) (hc : cur < 256 ^ 34) (hQ : Q < 256 ^ 34) : cur = Q := by
  generalize 256 ^ 34 = P at *
  have h1 : c = 0 := by
    rcases Int.lt_trichotomy c 0 with h2 | h2 | h2
    · exfalso
      have : c * (P : Int) ≤ -1 * (P : Int) := Int.mul_le_mul_of_nonneg_right (by omega) (by omega)
      omega
    · exact h2
    · exfalso
      have : 1 * (P : Int) ≤ c * (P : Int) := Int.mul_le_mul_of_nonneg_right (by omega) (by omega)
      omega
  rw [h1, Int.zero_mul] at h
  omega
theorem byte_mod (N k : Nat) (hk : k ≤ 8) : dg 256 N 0 % 2 ^ k = N % 2 ^ k := by
  unfold dg
  rw [Nat.pow_zero, Nat.div_one, show 256 = 2 ^ k * 2 ^ (8 - k) from by rw [← Nat.pow_add, show k + (8 - k) = 8 by omega], Nat.mod_mul_right_mod]
theorem byte_two (N : Nat) : dg 256 N 0 % 2 = N % 2 := by
  have := byte_mod N 1 (by decide)
  rwa [Nat.pow_one] at this
/-- the reference's digit -/
theorem ref_digit {N k : Nat} (hk : 2 ≤ k) (ho : ¬ N % 2 = 0) : (2 ^ (k - 1) < N % 2 ^ k → nd k N = ((N % 2 ^ k : Nat) : Int) - ((2 ^ k : Nat) : Int)) ∧ (¬ 2 ^ (k - 1) < N % 2 ^ k → nd k N = ((N % 2 ^ k : Nat) : Int)) := by
  have hp : 2 ^ k = 2 * 2 ^ (k - 1) := by rw [← Nat.pow_succ']; congr 1; omega
  have h2 : N % 2 ^ k % 2 = N % 2 := by rw [hp, Nat.mod_mul_right_mod]
  have he : ∃ t, 2 ^ (k - 1) = 2 * t := ⟨2 ^ (k - 2), by rw [← Nat.pow_succ']; congr 1; omega⟩
  obtain ⟨t, ht⟩ := he
  unfold nd
  rw [if_neg ho]
  rw [ht]
  generalize 2 ^ k = P at *
  generalize N % P = e at *
  constructor
  · intro h; rw [if_neg (by omega)]
  · intro h; rw [if_pos (by omega)]
theorem pow_half {k : Nat} (hk : 2 ≤ k) (hk8 : k ≤ 8) : ((2 ^ k : Nat) : Int).tdiv 2 = ((2 ^ (k - 1) : Nat) : Int) ∧ 2 ^ k ≤ 256 ∧ 4 ≤ 2 ^ k := by
  have hp : 2 ^ k = 2 * 2 ^ (k - 1) := by rw [← Nat.pow_succ']; congr 1; omega
  have h1 : 2 ^ k ≤ 2 ^ 8 := Nat.pow_le_pow_right (by decide) hk8
  have h2 : 2 ^ 2 ≤ 2 ^ k := Nat.pow_le_pow_right (by decide) hk
  refine ⟨?_, by omega, by omega⟩
  rw [hp, Int.natCast_mul]
  exact Int.mul_tdiv_cancel_left _ (by decide)
theorem tmod_nat (a b : Nat) : (a : Int).tmod (b : Int) = ((a % b : Nat) : Int) := by
  rw [Int.tmod_eq_emod_of_nonneg (by omega)]; rfl
end ScalarNum
