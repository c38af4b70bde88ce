import Derived.Test.YteijccjdejjbjaaDoorRd
namespace Go.Proofs.YteijccjdejjbjaaDoor
open Go.RowKit Go.Shelf ScalarNum

theorem wpList_load64 {ops : Array Oper} {rest : List Oper} {op : Oper} {a : Act} {w : World} {Q : Exit → Act → World → Prop} (hgd : op.guard = none) (x : Operand) (ho : op.op = .load 22 x)
    (b : Nat) (hx : a.eval x = .pointer (some ⟨b, 0, none⟩)) (n : Nat) (hc : w.rangeAt b 0 (yl 64 n))
    (h : wpList Tryd.prog ops Q rest (a.put op.dst (yv 64 n)) w) : wpList Tryd.prog ops Q (op :: rest) a w :=
  wpList_load_mid hgd 22 x ho b 0 hx (yl 64 n) _ hc Tryd.underlying22 rfl (by rw [yl_length]; exact info64) h
section
variable {ops : Array Oper} {Q : Exit → Act → World → Prop} {md : Region.Mode} {S : World → Prop} {fuel : Nat} {listed : Array Bool} {a : Act} {w : World}
theorem take64 (i : Nat) (n b : Nat) {oi : Oper} (hi : ops.toList[i]? = some oi) (hs : Region.noSelect ops = true) (hf : Region.free md ops listed i = true) (hr : (Region.ready md ops listed).contains i = true)
    (hQ : ∀ c a w, Q (.panic c) (a.put oi.dst (yv 64 n)) w → Q (.panic c) a w) (hw : Region.wanted oi (yielded ops a.tmps) = true) {x : Operand} (ho : oi.op = .load 22 x)
    (hx : a.eval x = .pointer (some ⟨b, 0, none⟩)) (hS : ∀ w, S w → w.rangeAt b 0 (yl 64 n)) (hSw : S w)
    (h : wpAnyH Tryd.prog md ops Q S fuel (listed.setIfInBounds i true) (a.put oi.dst (yv 64 n)) w) : wpAnyH Tryd.prog md ops Q S (fuel + 1) listed a w :=
  wpAnyH_take (i := i) (oi := oi) (v := yv 64 n) (by rw [← Array.getElem?_toList]; exact hi) hs hf hr hQ
    (yieldsIf_load_mid hw 22 x ho b 0 hx (yl 64 n) _ hS Tryd.underlying22 rfl (by rw [yl_length]; exact info64)) hSw h
end

theorem keepR {W w1 w2 : World} {b1 b2 : Nat} {xs ys : List Value} (h : w1.rangeAt b1 0 xs ∧ w1.rangeAt b2 0 ys ∧ Grown W w1) (hg : Grown w1 w2) : w2.rangeAt b1 0 xs ∧ w2.rangeAt b2 0 ys ∧ Grown W w2 :=
  ⟨rangeAt_grown h.1 hg, rangeAt_grown h.2.1 hg, grown_trans h.2.2 hg⟩

set_option maxRecDepth 100000 in
set_option maxHeartbeats 1000000 in
theorem reduces_walk (v : Nat) (hv : v < M * M) (w : World) (hT : Tab w) (hO : w.rangeAt 1 0 (yl 32 L)) : Calls Tryd.prog 3 #[yv 64 v] w fun e w' => e = .returned (.bool true) ∧ Grown w w' := by
  have h0 : (w.alloc (.cells (yl 64 v).toArray 22)).rangeAt w.heap.size 0 (yl 64 v) ∧ Grown w (w.alloc (.cells (yl 64 v).toArray 22)) := ⟨rangeAt_alloc_new w 22 (yl 64 v), Grown.alloc (Grown.refl _) _ _⟩
  have HT := Hid.of hT
  have HO := Hid.of hO
  clear hT hO
  rw [yv]
  go_enter Tryd.func3, Tryd.ntmps3
  go_wp2_with (with_reducible show wpList _ _ _ ({ dst := _, op := Op.load 22 _, type := _, pos := _, after := _, guard := _ } :: _) _ _; refine Shut.out ?_)
  show wpList _ _ _ _ _ _
  generalize (w.alloc (.cells (yl 64 v).toArray 22)) = W0 at *
  have H0 := Hid.of h0
  clear h0
  refine wpList_load64 rfl _ rfl w.heap.size rfl v H0.out.1 ?_
  simp only [Act.put, List.setIfInBounds_toArray, List.set_cons_zero, List.set_cons_succ]
  go_wp2_with fail
  refine Calls.mono (Reduce_num v hv _ (HT.out.grown H0.out.2)) ?_
  rintro e w1 ⟨rfl, g1⟩
  dsimp only
  have H1 := Hid.of (And.intro (rangeAt_grown H0.out.1 g1) (grown_trans H0.out.2 g1))
  clear H0 g1
  go_wp2_with (with_reducible show wpList _ _ _ ({ dst := _, op := Op.store 23 _ _, type := _, pos := _, after := _, guard := _ } :: _) _ _; refine Shut.out ?_)
  show wpList _ _ _ _ _ _
  refine wpList_store_new (sred v) (by simp) rfl rfl rfl rfl (fun w2 hg2 hr2 _ => ?_)
  simp only [Act.put]
  apply wpList_nil
  have H2 := Hid.of (And.intro (rangeAt_grown H1.out.1 hg2) (And.intro hr2 (grown_trans H1.out.2 hg2)))
  clear H1 hg2 hr2
  generalize w1.heap.size = b3 at *
  go_wp2
  refine wp_region_noPanic ?_
  refine wp_region_held_drew (S := fun w' => w'.rangeAt w.heap.size 0 (yl 64 v) ∧ w'.rangeAt b3 0 (yl 32 (sred v)) ∧ Grown w w') (by kernel_rfl) H2.out (fun hH => ?_)
  clear H2
  refine take32 0 (sred v) (b3) rfl (by kernel_rfl) (by kernel_rfl) (by kernel_rfl) (fun _ _ _ h => h) (by rfl) rfl rfl (fun _ h => h.2.1) hH ?_
  simp only [Act.put, List.setIfInBounds_toArray, List.set_cons_zero, List.set_cons_succ]
  refine take64 1 v w.heap.size rfl (by kernel_rfl) (by kernel_rfl) (by kernel_rfl) (fun _ _ _ h => h) (by rfl) rfl rfl (fun _ h => h.1) hH ?_
  simp only [Act.put, List.setIfInBounds_toArray, List.set_cons_zero, List.set_cons_succ]
  refine step1 2 (by kernel_rfl) rfl (fun K hK => ?_)
  go_simp
  refine Calls.mono (refReduce_num v hv _ (rangeAt_grown HO.out hH.2.2)) ?_
  rintro e w3 ⟨rfl, hg3⟩
  dsimp only
  refine hK.out _ _ (keepR hH hg3) (fun hH => ?_)
  clear hK K
  rw [show v % L = sred v from rfl]
  refine takeV 3 (.bool true) rfl (by kernel_rfl) (by kernel_rfl) (by kernel_rfl) (fun _ _ _ h => h) (by rfl) (fun w _ => exec_eql_same rfl (sred v) (sred v) rfl rfl (sred_lt v) (sred_lt v) rfl w) hH ?_
  simp only [Act.put, List.setIfInBounds_toArray, List.set_cons_zero, List.set_cons_succ]
  refine takeV 4 (.bool true) rfl (by kernel_rfl) (by kernel_rfl) (by kernel_rfl) (fun _ _ _ h => h) (by rfl) (fun w _ => rfl) hH ?_
  simp only [Act.put, List.setIfInBounds_toArray, List.set_cons_zero, List.set_cons_succ]
  refine take32 5 (sred v) (b3) rfl (by kernel_rfl) (by kernel_rfl) (by kernel_rfl) (fun _ _ _ h => h) (by rfl) rfl rfl (fun _ h => h.2.1) hH ?_
  simp only [Act.put, List.setIfInBounds_toArray, List.set_cons_zero, List.set_cons_succ]
  refine step1 6 (by kernel_rfl) rfl (fun K hK => ?_)
  rw [if_pos (by rfl)]
  go_simp
  refine Calls.mono (canon_is (sred v) (sred_lt v) true (decide_eq_true (modL_lt v)) _ (HT.out.grown hH.2.2)) ?_
  rintro e w4 ⟨rfl, hg4⟩
  dsimp only
  refine hK.out _ _ (keepR hH hg4) (fun hH => ?_)
  clear hK K
  refine takeV 7 (.bool true) rfl (by kernel_rfl) (by kernel_rfl) (by kernel_rfl) (fun _ _ _ h => h) (by rfl) (fun w _ => rfl) hH ?_
  simp only [Act.put, List.setIfInBounds_toArray, List.set_cons_zero, List.set_cons_succ]
  refine takeV 8 (.bool true) rfl (by kernel_rfl) (by kernel_rfl) (by kernel_rfl) (fun _ _ _ h => h) (by rfl) (fun w _ => rfl) hH ?_
  simp only [Act.put, List.setIfInBounds_toArray, List.set_cons_zero, List.set_cons_succ]
  refine wpAnyH_done (by kernel_rfl) ?_ _
  refine NoPanic.normal ?_
  repeat go_step
  go_ret
  exact ⟨rfl, hH.2.2⟩
end Go.Proofs.YteijccjdejjbjaaDoor
