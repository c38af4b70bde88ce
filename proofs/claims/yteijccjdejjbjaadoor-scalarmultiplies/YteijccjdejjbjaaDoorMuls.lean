import Derived.Test.YteijccjdejjbjaaDoorRn
namespace Go.Proofs.YteijccjdejjbjaaDoor
open Go.RowKit Go.Shelf ScalarNum

set_option maxRecDepth 100000 in
set_option maxHeartbeats 4000000 in
theorem muls_walk (a b c : Nat) (ha : a < M) (hb : b < M) (hc : c < M) (w : World) (hT : Tab w) (hO : w.rangeAt 1 0 (yl 32 L)) :
    Calls Tryd.prog 12 #[yv 32 a, yv 32 b, yv 32 c] w fun e w' => e = .returned (.bool true) ∧ Grown w w' := by
  rw [yv, yv, yv]
  go_enter Tryd.func12, Tryd.ntmps12
  go_wp2
  obtain ⟨hE0, hW0⟩ := params3 w a b c
  generalize (((w.alloc (Obj.cells (yl 32 a).toArray 23)).alloc (Obj.cells (yl 32 b).toArray 23)).alloc (Obj.cells (yl 32 c).toArray 23)) = W0 at hE0 hW0 ⊢
  refine wp_region_noPanic ?_
  refine wp_region_held_drew (S := fun w' => Holds [(w.heap.size, a), (w.heap.size + 1, b), (w.heap.size + 1 + 1, c)] w' ∧ Grown w w') (by kernel_rfl) ⟨hE0, hW0⟩ (fun hH1 => ?_)
  clear hE0 hW0
  refine take32 0 (a) (w.heap.size) rfl (by kernel_rfl) (by kernel_rfl) (by kernel_rfl) (fun _ _ _ h => h) (by rfl) rfl rfl (fun _ h => h.1 (w.heap.size, a) (.head _)) hH1 ?_
  simp only [Act.put, List.setIfInBounds_toArray, List.set_cons_zero, List.set_cons_succ]
  refine take32 1 (b) (w.heap.size + 1) rfl (by kernel_rfl) (by kernel_rfl) (by kernel_rfl) (fun _ _ _ h => h) (by rfl) rfl rfl (fun _ h => h.1 (w.heap.size + 1, b) (.tail _ (.head _))) hH1 ?_
  simp only [Act.put, List.setIfInBounds_toArray, List.set_cons_zero, List.set_cons_succ]
  refine take32 2 (c) (w.heap.size + 1 + 1) rfl (by kernel_rfl) (by kernel_rfl) (by kernel_rfl) (fun _ _ _ h => h) (by rfl) rfl rfl (fun _ h => h.1 (w.heap.size + 1 + 1, c) (.tail _ (.tail _ (.head _)))) hH1 ?_
  simp only [Act.put, List.setIfInBounds_toArray, List.set_cons_zero, List.set_cons_succ]
  refine take32 4 (a) (w.heap.size) rfl (by kernel_rfl) (by kernel_rfl) (by kernel_rfl) (fun _ _ _ h => h) (by rfl) rfl rfl (fun _ h => h.1 (w.heap.size, a) (.head _)) hH1 ?_
  simp only [Act.put, List.setIfInBounds_toArray, List.set_cons_zero, List.set_cons_succ]
  refine take32 5 (b) (w.heap.size + 1) rfl (by kernel_rfl) (by kernel_rfl) (by kernel_rfl) (fun _ _ _ h => h) (by rfl) rfl rfl (fun _ h => h.1 (w.heap.size + 1, b) (.tail _ (.head _))) hH1 ?_
  simp only [Act.put, List.setIfInBounds_toArray, List.set_cons_zero, List.set_cons_succ]
  refine take32 6 (c) (w.heap.size + 1 + 1) rfl (by kernel_rfl) (by kernel_rfl) (by kernel_rfl) (fun _ _ _ h => h) (by rfl) rfl rfl (fun _ h => h.1 (w.heap.size + 1 + 1, c) (.tail _ (.tail _ (.head _)))) hH1 ?_
  simp only [Act.put, List.setIfInBounds_toArray, List.set_cons_zero, List.set_cons_succ]
  refine step1 3 (by kernel_rfl) rfl (fun K hK => ?_)
  rw [if_pos (by rfl)]
  go_simp
  refine Calls.mono (MulAdd_num (a) (b) (c) ha hb hc _ (hT.grown hH1.2)) ?_
  rintro e w2 ⟨rfl, hg2⟩
  dsimp only
  refine hK.out _ _ (keepE hH1 hg2) (fun hH2 => ?_)
  clear hK K
  clear hH1
  clear hg2
  refine step1 7 (by kernel_rfl) rfl (fun K hK => ?_)
  rw [if_pos (by rfl)]
  go_simp
  refine Calls.mono (refMulAdd_num (a) (b) (c) ha hb hc _ (rangeAt_grown hO hH2.2)) ?_
  rintro e w3 ⟨rfl, hg3⟩
  dsimp only
  refine hK.out _ _ (keepE hH2 hg3) (fun hH3 => ?_)
  clear hK K
  clear hH2
  clear hg3
  refine takeV 8 (.bool true) rfl (by kernel_rfl) (by kernel_rfl) (by kernel_rfl) (fun _ _ _ h => h) (by rfl) (fun w _ => exec_eql_same rfl (smad (a) (b) (c)) (smad (a) (b) (c)) rfl rfl (smad_lt _ _ _) (smad_lt _ _ _) (rfl) w) hH3 ?_
  simp only [Act.put, List.setIfInBounds_toArray, List.set_cons_zero, List.set_cons_succ]
  refine takeV 9 (.bool true) rfl (by kernel_rfl) (by kernel_rfl) (by kernel_rfl) (fun _ _ _ h => h) (by rfl) (fun w _ => rfl) hH3 ?_
  simp only [Act.put, List.setIfInBounds_toArray, List.set_cons_zero, List.set_cons_succ]
  refine take32 10 (a) (w.heap.size) rfl (by kernel_rfl) (by kernel_rfl) (by kernel_rfl) (fun _ _ _ h => h) (by rfl) rfl rfl (fun _ h => h.1 (w.heap.size, a) (.head _)) hH3 ?_
  simp only [Act.put, List.setIfInBounds_toArray, List.set_cons_zero, List.set_cons_succ]
  refine take32 11 (b) (w.heap.size + 1) rfl (by kernel_rfl) (by kernel_rfl) (by kernel_rfl) (fun _ _ _ h => h) (by rfl) rfl rfl (fun _ h => h.1 (w.heap.size + 1, b) (.tail _ (.head _))) hH3 ?_
  simp only [Act.put, List.setIfInBounds_toArray, List.set_cons_zero, List.set_cons_succ]
  refine take32 13 (a) (w.heap.size) rfl (by kernel_rfl) (by kernel_rfl) (by kernel_rfl) (fun _ _ _ h => h) (by rfl) rfl rfl (fun _ h => h.1 (w.heap.size, a) (.head _)) hH3 ?_
  simp only [Act.put, List.setIfInBounds_toArray, List.set_cons_zero, List.set_cons_succ]
  refine take32 14 (b) (w.heap.size + 1) rfl (by kernel_rfl) (by kernel_rfl) (by kernel_rfl) (fun _ _ _ h => h) (by rfl) rfl rfl (fun _ h => h.1 (w.heap.size + 1, b) (.tail _ (.head _))) hH3 ?_
  simp only [Act.put, List.setIfInBounds_toArray, List.set_cons_zero, List.set_cons_succ]
  refine step1 12 (by kernel_rfl) rfl (fun K hK => ?_)
  rw [if_pos (by rfl)]
  go_simp
  refine Calls.mono (Add_num (a) (b) ha hb _ (hT.grown hH3.2)) ?_
  rintro e w4 ⟨rfl, hg4⟩
  dsimp only
  refine hK.out _ _ (keepE hH3 hg4) (fun hH4 => ?_)
  clear hK K
  clear hH3
  clear hg4
  refine step1 15 (by kernel_rfl) rfl (fun K hK => ?_)
  rw [if_pos (by rfl)]
  go_simp
  refine Calls.mono (refAdd_num (a) (b) ha hb _ (rangeAt_grown hO hH4.2)) ?_
  rintro e w5 ⟨rfl, hg5⟩
  dsimp only
  refine hK.out _ _ (keepE hH4 hg5) (fun hH5 => ?_)
  clear hK K
  clear hH4
  clear hg5
  refine takeV 16 (.bool true) rfl (by kernel_rfl) (by kernel_rfl) (by kernel_rfl) (fun _ _ _ h => h) (by rfl) (fun w _ => exec_eql_same rfl (sadd (a) (b)) (sadd (a) (b)) rfl rfl (sadd_lt _ _) (sadd_lt _ _) (rfl) w) hH5 ?_
  simp only [Act.put, List.setIfInBounds_toArray, List.set_cons_zero, List.set_cons_succ]
  refine takeV 17 (.bool true) rfl (by kernel_rfl) (by kernel_rfl) (by kernel_rfl) (fun _ _ _ h => h) (by rfl) (fun w _ => rfl) hH5 ?_
  simp only [Act.put, List.setIfInBounds_toArray, List.set_cons_zero, List.set_cons_succ]
  refine takeV 18 (.bool true) rfl (by kernel_rfl) (by kernel_rfl) (by kernel_rfl) (fun _ _ _ h => h) (by rfl) (fun w _ => rfl) hH5 ?_
  simp only [Act.put, List.setIfInBounds_toArray, List.set_cons_zero, List.set_cons_succ]
  refine take32 19 (c) (w.heap.size + 1 + 1) rfl (by kernel_rfl) (by kernel_rfl) (by kernel_rfl) (fun _ _ _ h => h) (by rfl) rfl rfl (fun _ h => h.1 (w.heap.size + 1 + 1, c) (.tail _ (.tail _ (.head _)))) hH5 ?_
  simp only [Act.put, List.setIfInBounds_toArray, List.set_cons_zero, List.set_cons_succ]
  refine take32 21 (c) (w.heap.size + 1 + 1) rfl (by kernel_rfl) (by kernel_rfl) (by kernel_rfl) (fun _ _ _ h => h) (by rfl) rfl rfl (fun _ h => h.1 (w.heap.size + 1 + 1, c) (.tail _ (.tail _ (.head _)))) hH5 ?_
  simp only [Act.put, List.setIfInBounds_toArray, List.set_cons_zero, List.set_cons_succ]
  refine step1 20 (by kernel_rfl) rfl (fun K hK => ?_)
  rw [if_pos (by rfl)]
  go_simp
  refine Calls.mono (Neg_num (c) hc _ (hT.grown hH5.2)) ?_
  rintro e w6 ⟨rfl, hg6⟩
  dsimp only
  refine hK.out _ _ (keepE hH5 hg6) (fun hH6 => ?_)
  clear hK K
  clear hH5
  clear hg6
  refine step1 22 (by kernel_rfl) rfl (fun K hK => ?_)
  rw [if_pos (by rfl)]
  go_simp
  refine Calls.mono (refNeg_num (c) hc _ (rangeAt_grown hO hH6.2)) ?_
  rintro e w7 ⟨rfl, hg7⟩
  dsimp only
  refine hK.out _ _ (keepE hH6 hg7) (fun hH7 => ?_)
  clear hK K
  clear hH6
  clear hg7
  refine takeV 23 (.bool true) rfl (by kernel_rfl) (by kernel_rfl) (by kernel_rfl) (fun _ _ _ h => h) (by rfl) (fun w _ => exec_eql_same rfl (sneg (c)) (sneg (c)) rfl rfl (sneg_lt _) (sneg_lt _) (rfl) w) hH7 ?_
  simp only [Act.put, List.setIfInBounds_toArray, List.set_cons_zero, List.set_cons_succ]
  refine takeV 24 (.bool true) rfl (by kernel_rfl) (by kernel_rfl) (by kernel_rfl) (fun _ _ _ h => h) (by rfl) (fun w _ => rfl) hH7 ?_
  simp only [Act.put, List.setIfInBounds_toArray, List.set_cons_zero, List.set_cons_succ]
  refine takeV 25 (.bool true) rfl (by kernel_rfl) (by kernel_rfl) (by kernel_rfl) (fun _ _ _ h => h) (by rfl) (fun w _ => rfl) hH7 ?_
  simp only [Act.put, List.setIfInBounds_toArray, List.set_cons_zero, List.set_cons_succ]
  refine wpAnyH_done (by kernel_rfl) ?_ _
  refine NoPanic.normal ?_
  obtain ⟨hE8, hW8⟩ := hH7
  repeat go_step
  go_ret
  exact ⟨rfl, by first | assumption | exact hW8⟩
end Go.Proofs.YteijccjdejjbjaaDoor
