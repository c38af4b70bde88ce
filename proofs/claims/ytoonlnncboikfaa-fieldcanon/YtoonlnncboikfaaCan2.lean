import Derived.Test.YtoonlnncboikfaaCan
namespace Go.Proofs.Ytoonlnncboikfaa
open Go.RowKit Go.Shelf FieldNum

set_option maxRecDepth 100000 in
set_option maxHeartbeats 1000000 in
theorem Odd_any (x : Nat) (hx : x < M) (w : World) : Calls Try.prog 14 #[bv x] w fun e w' => e = .returned (.bool (decide (x % p % 2 = 1))) ∧ Grown w w' := by
  rw [bv]
  go_enter Try.func14, Try.ntmps14
  go_wp2_with (with_reducible show wpList _ _ _ ({ dst := _, op := Op.load 22 _, type := _, pos := _, after := _, guard := _ } :: _) _ _; refine Shut.out ?_)
  show wpList _ _ _ _ _ _
  obtain ⟨hE, hW⟩ := params1 w x
  generalize (w.alloc (Obj.cells (bl x).toArray 22)) = W0 at hE hW ⊢
  refine wpList_load32 rfl _ rfl _ rfl x (hE _ (.head _)) ?_
  simp only [Act.put, List.setIfInBounds_toArray, List.set_cons_zero, List.set_cons_succ]
  go_wp2_with fail
  refine Calls.mono (load_num x _) ?_
  rintro e w1 ⟨rfl, hg1⟩
  dsimp only
  go_step
  have hW1 := grown_trans hW hg1
  clear hE hW hg1
  go_wp2_with fail
  refine Calls.mono (odd_num x hx _) ?_
  rintro e w2 ⟨rfl, hg2⟩
  dsimp only
  go_step
  have hW2 := grown_trans hW1 hg2
  clear hW1 hg2
  refine wpList_val (.bool (decide (x % p % 2 = 1))) rfl rfl ?_
  simp only [Act.put, List.setIfInBounds_toArray, List.set_cons_zero, List.set_cons_succ]
  apply wpList_nil
  repeat go_step
  go_ret
  exact ⟨rfl, hW2⟩

set_option maxRecDepth 100000 in
set_option maxHeartbeats 1000000 in
theorem Equal_any (x y : Nat) (hx : x < M) (hy : y < M) (w : World) : Calls Try.prog 15 #[bv x, bv y] w fun e w' => e = .returned (.bool (decide (x % p = y % p))) ∧ Grown w w' := by
  rw [bv, bv]
  go_enter Try.func15, Try.ntmps15
  go_wp2
  obtain ⟨hE, hW⟩ := params2 w x y
  generalize ((w.alloc (Obj.cells (bl x).toArray 22)).alloc (Obj.cells (bl y).toArray 22)) = W0 at hE hW ⊢
  refine wp_region_noPanic ?_
  refine wp_region_held_drew (S := fun w' => Holds [(w.heap.size, x), (w.heap.size + 1, y)] w' ∧ Grown w w') (by kernel_rfl) ⟨hE, hW⟩ (fun hH0 => ?_)
  clear hE hW
  refine take32 0 x w.heap.size rfl (by kernel_rfl) (by kernel_rfl) (by kernel_rfl) (fun _ _ _ h => h) (by rfl) rfl rfl (fun _ h => h.1 _ (.head _)) hH0 ?_
  simp only [Act.put, List.setIfInBounds_toArray, List.set_cons_zero, List.set_cons_succ]
  refine take32 2 y (w.heap.size + 1) rfl (by kernel_rfl) (by kernel_rfl) (by kernel_rfl) (fun _ _ _ h => h) (by rfl) rfl rfl (fun _ h => h.1 _ (.tail _ (.head _))) hH0 ?_
  simp only [Act.put, List.setIfInBounds_toArray, List.set_cons_zero, List.set_cons_succ]
  refine step1 1 (by kernel_rfl) rfl (fun K hK => ?_)
  rw [if_pos (by rfl)]
  go_simp
  refine Calls.mono (load_num x _) ?_
  rintro e w1 ⟨rfl, hg1⟩
  dsimp only
  refine hK.out _ _ (keepE hH0 hg1) (fun hH1 => ?_)
  clear hK K hH0 hg1
  refine step1 3 (by kernel_rfl) rfl (fun K hK => ?_)
  rw [if_pos (by rfl)]
  go_simp
  refine Calls.mono (load_num y _) ?_
  rintro e w2 ⟨rfl, hg2⟩
  dsimp only
  refine hK.out _ _ (keepE hH1 hg2) (fun hH2 => ?_)
  clear hK K hH1 hg2
  refine step1 4 (by kernel_rfl) rfl (fun K hK => ?_)
  rw [if_pos (by rfl)]
  go_simp
  refine Calls.mono (equals_num x y hx hy _) ?_
  rintro e w3 ⟨rfl, hg3⟩
  dsimp only
  refine hK.out _ _ (keepE hH2 hg3) (fun hH3 => ?_)
  clear hK K hH2 hg3
  refine takeV 5 (.bool (decide (x % p = y % p))) rfl (by kernel_rfl) (by kernel_rfl) (by kernel_rfl) (fun _ _ _ h => h) (by rfl) (fun w _ => rfl) hH3 ?_
  simp only [Act.put, List.setIfInBounds_toArray, List.set_cons_zero, List.set_cons_succ]
  refine wpAnyH_done (by kernel_rfl) ?_ _
  refine NoPanic.normal ?_
  repeat go_step
  go_ret
  exact ⟨rfl, hH3.2⟩

/-- a new variable of a number, and what is laid into it -/
theorem wpList_store_newN {ops : Array Oper} {Q : Exit → Act → World → Prop} {a : Act} {w : World} {rest : List Oper} {o : Oper} {x y : Operand} {c : Array Value} (n : Nat) (hc : 4 ≤ c.size) (hgd : o.guard = none) (ho : o.op = .store 34 x y)
    (hx : a.eval x = .pointer (some ⟨w.heap.size, 0, none⟩)) (hy : a.eval y = numV n)
    (h : ∀ w2, Grown w w2 → w2.rangeAt w.heap.size 0 (nl n) → wpList Try.prog ops Q rest (a.put o.dst undef) w2) :
    wpList Try.prog ops Q (o :: rest) a (w.alloc (.cells c 34)) := by
  have ht := there_alloc_new w 34 c 4 hc
  refine wpList_store_mid hgd 34 x y ho w.heap.size 0 (nl n).toArray hx hy (by rw [show (nl n).toArray.size = 4 from by rw [List.size_toArray, nl_length]]; exact ht) (by rw [List.size_toArray, nl_length]; exact infoN) (all_oneCell_toArray (nl_one n)) ?_
  exact h _ (grown_setCells (Nat.le_refl _) _ _ (Grown.alloc (Grown.refl _) _ _)) (World.rangeAt_setCells_same _ _ _ (nl n) (by rw [nl_length]; exact ht))

set_option maxRecDepth 100000 in
set_option maxHeartbeats 1000000 in
theorem Canonical_any (x : Nat) (hx : x < M) (w : World) : Calls Try.prog 12 #[bv x] w fun e w' => e = .returned (.bool (decide (x < p))) ∧ Grown w w' := by
  have hdec : decide (x < p) = decide (x = x % p) := decide_eq_decide.2 ⟨fun h => (Nat.mod_eq_of_lt h).symm, fun h => by rw [h]; exact Nat.mod_lt _ p_pos⟩
  rw [hdec]
  clear hdec
  rw [bv]
  go_enter Try.func12, Try.ntmps12
  go_wp2_with (with_reducible show wpList _ _ _ ({ dst := _, op := Op.load 22 _, type := _, pos := _, after := _, guard := _ } :: _) _ _; refine Shut.out ?_)
  show wpList _ _ _ _ _ _
  obtain ⟨hE, hW⟩ := params1 w x
  generalize (w.alloc (Obj.cells (bl x).toArray 22)) = W0 at hE hW ⊢
  refine wpList_load32 rfl _ rfl _ rfl x (hE _ (.head _)) ?_
  simp only [Act.put, List.setIfInBounds_toArray, List.set_cons_zero, List.set_cons_succ]
  go_wp2_with fail
  refine Calls.mono (load_num x _) ?_
  rintro e w1 ⟨rfl, hg1⟩
  dsimp only
  go_step
  have hW1 := grown_trans hW hg1
  clear hE hW hg1
  go_wp2_with (with_reducible show wpList _ _ _ ({ dst := _, op := Op.store 34 _ _, type := _, pos := _, after := _, guard := _ } :: _) _ _; refine Shut.out ?_)
  show wpList _ _ _ _ _ _
  refine wpList_store_newN x (by simp) rfl rfl rfl rfl (fun w2 hg2 hr2 => ?_)
  simp only [Act.put]
  have hW2 := grown_trans hW1 hg2
  clear hW1 hg2
  apply wpList_nil
  repeat ((fail_if_success (with_reducible show Code.wp _ (Code.region _ _ _) _ _ _)); go_step)
  refine wp_region_noPanic ?_
  refine wp_region_held_drew (S := fun w' => w'.rangeAt w1.heap.size 0 (nl x) ∧ Grown w w') (by kernel_rfl) ⟨hr2, hW2⟩ (fun hH0 => ?_)
  clear hr2 hW2
  refine takeN 0 x w1.heap.size 0 rfl (by kernel_rfl) (by kernel_rfl) (by kernel_rfl) (fun _ _ _ h => h) (by rfl) rfl rfl (fun _ h => h.1) hH0 ?_
  simp only [Act.put, List.setIfInBounds_toArray, List.set_cons_zero, List.set_cons_succ]
  refine takeN 1 x w1.heap.size 0 rfl (by kernel_rfl) (by kernel_rfl) (by kernel_rfl) (fun _ _ _ h => h) (by rfl) rfl rfl (fun _ h => h.1) hH0 ?_
  simp only [Act.put, List.setIfInBounds_toArray, List.set_cons_zero, List.set_cons_succ]
  refine step1 2 (by kernel_rfl) rfl (fun K hK => ?_)
  rw [if_pos (by rfl)]
  go_simp
  refine Calls.mono (canonical_num x hx _) ?_
  rintro e w3 ⟨rfl, hg3⟩
  dsimp only
  refine hK.out _ _ ⟨rangeAt_grown hH0.1 hg3, grown_trans hH0.2 hg3⟩ (fun hH1 => ?_)
  clear hK K hH0 hg3
  refine takeV 3 (.bool (decide (x = x % p))) rfl (by kernel_rfl) (by kernel_rfl) (by kernel_rfl) (fun _ _ _ h => h) (by rfl) (fun w _ => exec_eqlN rfl x (x % p) rfl rfl hx (mod_lt256 _) w) hH1 ?_
  simp only [Act.put, List.setIfInBounds_toArray, List.set_cons_zero, List.set_cons_succ]
  refine takeV 4 (.bool (decide (x = x % p))) rfl (by kernel_rfl) (by kernel_rfl) (by kernel_rfl) (fun _ _ _ h => h) (by rfl) (fun w _ => rfl) hH1 ?_
  simp only [Act.put, List.setIfInBounds_toArray, List.set_cons_zero, List.set_cons_succ]
  refine wpAnyH_done (by kernel_rfl) ?_ _
  refine NoPanic.normal ?_
  repeat go_step
  go_ret
  exact ⟨rfl, hH1.2⟩
end Go.Proofs.Ytoonlnncboikfaa
