import Derived.Test.YtfnbodpbdfeiiaaDoorInv
namespace Go.Proofs.YtfnbodpbdfeiiaaDoor
open Go.RowKit Go.Shelf FieldNum

set_option maxRecDepth 100000 in
set_option maxHeartbeats 2000000 in
theorem halfPower_num (x : Nat) (hx : x < M) (w : World) (hG : w.rangeAt 2 0 PW) :
    Calls Tryd.prog 28 #[numV x] w fun e w' => (∃ z, e = .returned (numV z) ∧ z < M ∧ z % p = hp x) ∧ Grown w w' := by
  obtain ⟨x0, x1, x2, x3, ex, _, _, _, _, _⟩ := words_of_num x hx
  have hS0 := start_num w x x0 x1 x2 x3 ex
  rw [ex]
  clear ex
  go_enter Tryd.func28, Tryd.ntmps28
  go_wp2
  refine wp_region_noPanic ?_
  refine wp_region_held_drew (S := SN w x) (by kernel_rfl) hS0 (fun hH0 => ?_)
  clear hS0
  refine takeN 0 x w.heap.size 0 rfl (by kernel_rfl) (by kernel_rfl) (by kernel_rfl) (fun _ _ _ h => h) (by rfl) rfl rfl (fun _ h => h.row) hH0 ?_
  simp only [Act.put, List.setIfInBounds_toArray, List.set_cons_zero, List.set_cons_succ]
  refine takeN 3 x w.heap.size 0 rfl (by kernel_rfl) (by kernel_rfl) (by kernel_rfl) (fun _ _ _ h => h) (by rfl) rfl rfl (fun _ h => h.row) hH0 ?_
  simp only [Act.put, List.setIfInBounds_toArray, List.set_cons_zero, List.set_cons_succ]
  refine takeN 6 x w.heap.size 0 rfl (by kernel_rfl) (by kernel_rfl) (by kernel_rfl) (fun _ _ _ h => h) (by rfl) rfl rfl (fun _ h => h.row) hH0 ?_
  simp only [Act.put, List.setIfInBounds_toArray, List.set_cons_zero, List.set_cons_succ]
  refine step1 1 (by kernel_rfl) rfl (fun K hK => ?_)
  rw [if_pos (by rfl)]
  go_simp
  refine Calls.mono (longPower_num x hx _ (hH0.tab hG)) ?_
  rintro e w1 ⟨⟨z1, rfl, b1, e1⟩, hg1⟩
  dsimp only
  have q1 := Hid.of e1
  refine hK.out _ _ (hH0.grown hg1) (fun hH1 => ?_)
  clear hK K hH0 hg1 e1
  refine step1 2 (by kernel_rfl) rfl (fun K hK => ?_)
  rw [if_pos (by rfl)]
  go_simp
  refine Calls.mono (squared_num z1 4 b1 (by decide) _) ?_
  rintro e w2 ⟨⟨z2, rfl, b2, e2⟩, hg2⟩
  dsimp only
  have q2 := Hid.of e2
  refine hK.out _ _ (hH1.grown hg2) (fun hH2 => ?_)
  clear hK K hH1 hg2 e2
  refine step1 4 (by kernel_rfl) rfl (fun K hK => ?_)
  rw [if_pos (by rfl)]
  go_simp
  refine Calls.mono (squared_num x 2 hx (by decide) _) ?_
  rintro e w3 ⟨⟨z3, rfl, b3, e3⟩, hg3⟩
  dsimp only
  have q3 := Hid.of e3
  refine hK.out _ _ (hH2.grown hg3) (fun hH3 => ?_)
  clear hK K hH2 hg3 e3
  refine step1 5 (by kernel_rfl) rfl (fun K hK => ?_)
  rw [if_pos (by rfl)]
  go_simp
  refine Calls.mono (times_num z2 z3 b2 b3 _) ?_
  rintro e w4 ⟨⟨z4, rfl, b4, e4⟩, hg4⟩
  dsimp only
  have q4 := Hid.of e4
  refine hK.out _ _ (hH3.grown hg4) (fun hH4 => ?_)
  clear hK K hH3 hg4 e4
  refine step1 7 (by kernel_rfl) rfl (fun K hK => ?_)
  rw [if_pos (by rfl)]
  go_simp
  refine Calls.mono (squared_num x 1 hx (by decide) _) ?_
  rintro e w5 ⟨⟨z5, rfl, b5, e5⟩, hg5⟩
  dsimp only
  have q5 := Hid.of e5
  refine hK.out _ _ (hH4.grown hg5) (fun hH5 => ?_)
  clear hK K hH4 hg5 e5
  refine step1 8 (by kernel_rfl) rfl (fun K hK => ?_)
  rw [if_pos (by rfl)]
  go_simp
  refine Calls.mono (times_num z4 z5 b4 b5 _) ?_
  rintro e w6 ⟨⟨z6, rfl, b6, e6⟩, hg6⟩
  dsimp only
  have q6 := Hid.of e6
  refine hK.out _ _ (hH5.grown hg6) (fun hH6 => ?_)
  clear hK K hH5 hg6 e6
  refine step1 9 (by kernel_rfl) rfl (fun K hK => ?_)
  have htr := hH6.tr
  have hgw := hH6.gw
  refine storeN z6 (w.heap.size + 1) 0 rfl (by rfl) rfl rfl htr (fun w9 hw9 => ?_)
  simp only [Act.put]
  have hr9 : w9.rangeAt (w.heap.size + 1) 0 (nl z6) := by rw [hw9]; exact World.rangeAt_setCells_same _ _ _ _ (by rw [nl_length]; exact htr)
  have hg9 : Grown w w9 := by rw [hw9]; exact grown_setCells (by omega) _ _ hgw
  refine hK.out _ _ (hH6.stored hw9) (fun _ => ?_)
  clear hK K hH6 hw9
  refine wpAnyH_done (by kernel_rfl) ?_ _
  refine NoPanic.normal ?_
  repeat go_step
  refine bodyPost_ret (v := numV z6) (resultN Tryd.results28 _ _ (w.heap.size + 1) z6 ?hp hr9) ?hd ?_
  case hp => rfl
  case hd => rfl
  refine ⟨⟨z6, rfl, b6, ?_⟩, hg9⟩
  have f1 := q1.out
  have f2 := q2.out
  have f3 := q3.out
  have f4 := q4.out
  have f5 := q5.out
  have f6 := q6.out
  have g := pmul (f4.trans (pmul (f2.trans (ppow f1)) (f3.trans (ppow (pone x))))) (f5.trans (ppow (pone x)))
  rw [f6, g]
  show _ = x ^ ((p - 1) / 2) % p
  exact congrArg (fun n => x ^ n % p) (by decide +kernel)
end Go.Proofs.YtfnbodpbdfeiiaaDoor
