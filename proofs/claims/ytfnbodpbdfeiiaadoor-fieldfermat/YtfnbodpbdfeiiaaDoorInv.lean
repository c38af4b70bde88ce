import Derived.Test.YtfnbodpbdfeiiaaDoorLP2
namespace Go.Proofs.YtfnbodpbdfeiiaaDoor
open Go.RowKit Go.Shelf FieldNum

/-- a number's variable and the result's -/
structure SN (w0 : World) (x : Nat) (wr : World) : Prop where
  row : wr.rangeAt w0.heap.size 0 (nl x)
  tr : wr.there (w0.heap.size + 1) 0 4
  gw : Grown w0 wr

theorem SN.grown {w0 wr w' : World} {x : Nat} (h : SN w0 x wr) (hg : Grown wr w') : SN w0 x w' := ⟨rangeAt_grown h.row hg, there_grown h.tr hg, grown_trans h.gw hg⟩
theorem SN.tab {w0 wr : World} {x : Nat} (h : SN w0 x wr) (hG : w0.rangeAt 2 0 PW) : wr.rangeAt 2 0 PW := rangeAt_grown hG h.gw
theorem SN.stored {w0 wr w' : World} {x z : Nat} (h : SN w0 x wr) (e : w' = wr.setCells (w0.heap.size + 1) 0 (nl z)) : SN w0 x w' := by
  subst e
  exact ⟨World.rangeAt_setCells_apart h.row _ _ _ (by left; omega), World.there_setCells h.tr _ _ _, grown_setCells (by omega) _ _ h.gw⟩

theorem start_num (w : World) (x : Nat) (x0 x1 x2 x3 : Int) (ex : numV x = numW x0 x1 x2 x3) :
    SN w x ((w.alloc (Obj.cells #[Value.int IntKind.u64 x0, Value.int IntKind.u64 x1, Value.int IntKind.u64 x2, Value.int IntKind.u64 x3] 38)).alloc (Obj.cells #[Value.int IntKind.u64 0, Value.int IntKind.u64 0, Value.int IntKind.u64 0, Value.int IntKind.u64 0] 38)).drew := by
  have enl : nl x = [.int .u64 x0, .int .u64 x1, .int .u64 x2, .int .u64 x3] := by
    rw [numV_nl] at ex
    injection ex with ex
    exact congrArg Array.toList ex
  have h1 : (w.alloc (Obj.cells (nl x).toArray 38)).rangeAt w.heap.size 0 (nl x) := rangeAt_alloc_new w 38 (nl x)
  have h2 := there_alloc_new (w.alloc (Obj.cells #[Value.int IntKind.u64 x0, Value.int IntKind.u64 x1, Value.int IntKind.u64 x2, Value.int IntKind.u64 x3] 38)) 38 #[Value.int IntKind.u64 0, Value.int IntKind.u64 0, Value.int IntKind.u64 0, Value.int IntKind.u64 0] 4 (by simp)
  rw [show (w.alloc (Obj.cells #[Value.int IntKind.u64 x0, Value.int IntKind.u64 x1, Value.int IntKind.u64 x2, Value.int IntKind.u64 x3] 38)).heap.size = w.heap.size + 1 by simp] at h2
  have h1' : (w.alloc (Obj.cells #[Value.int IntKind.u64 x0, Value.int IntKind.u64 x1, Value.int IntKind.u64 x2, Value.int IntKind.u64 x3] 38)).rangeAt w.heap.size 0 (nl x) := by
    rw [enl] at h1 ⊢; exact h1
  exact ⟨rangeAt_grown h1' (by go_grown), h2, by go_grown⟩

theorem pmul {a b x i j : Nat} (h1 : a % p = x ^ i % p) (h2 : b % p = x ^ j % p) : a * b % p = x ^ (i + j) % p := by
  rw [Nat.mul_mod, h1, h2, ← Nat.mul_mod, ← Nat.pow_add]
theorem ppow {a x i n : Nat} (h1 : a % p = x ^ i % p) : a ^ n % p = x ^ (i * n) % p := by
  rw [Nat.pow_mod, h1, ← Nat.pow_mod, ← Nat.pow_mul]
theorem pone (x : Nat) : x % p = x ^ 1 % p := by rw [Nat.pow_one]

set_option maxRecDepth 100000 in
set_option maxHeartbeats 2000000 in
theorem inverse_num (x : Nat) (hx : x < M) (w : World) (hG : w.rangeAt 2 0 PW) :
    Calls Tryd.prog 32 #[numV x] w fun e w' => (∃ z, e = .returned (numV z) ∧ z < M ∧ z % p = inv x) ∧ Grown w w' := by
  obtain ⟨x0, x1, x2, x3, ex, _, _, _, _, _⟩ := words_of_num x hx
  have hS0 := start_num w x x0 x1 x2 x3 ex
  rw [ex]
  clear ex
  go_enter Tryd.func32, Tryd.ntmps32
  go_wp2
  refine wp_region_noPanic ?_
  refine wp_region_held_drew (S := SN w x) (by kernel_rfl) hS0 (fun hH0 => ?_)
  clear hS0
  refine takeN 0 x w.heap.size 0 rfl (by kernel_rfl) (by kernel_rfl) (by kernel_rfl) (fun _ _ _ h => h) (by rfl) rfl rfl (fun _ h => h.row) hH0 ?_
  simp only [Act.put, List.setIfInBounds_toArray, List.set_cons_zero, List.set_cons_succ]
  refine takeN 3 x w.heap.size 0 rfl (by kernel_rfl) (by kernel_rfl) (by kernel_rfl) (fun _ _ _ h => h) (by rfl) rfl rfl (fun _ h => h.row) hH0 ?_
  simp only [Act.put, List.setIfInBounds_toArray, List.set_cons_zero, List.set_cons_succ]
  refine takeN 6 x w.heap.size 0 rfl (by kernel_rfl) (by kernel_rfl) (by kernel_rfl) (fun _ _ _ h => h) (by rfl) rfl rfl (fun _ h => h.row) hH0 ?_
  simp only [Act.put, List.setIfInBounds_toArray, List.set_cons_zero, List.set_cons_succ]
  refine takeN 9 x w.heap.size 0 rfl (by kernel_rfl) (by kernel_rfl) (by kernel_rfl) (fun _ _ _ h => h) (by rfl) rfl rfl (fun _ h => h.row) hH0 ?_
  simp only [Act.put, List.setIfInBounds_toArray, List.set_cons_zero, List.set_cons_succ]
  refine step1 1 (by kernel_rfl) rfl (fun K hK => ?_)
  rw [if_pos (by rfl)]
  go_simp
  refine Calls.mono (longPower_num x hx _ (hH0.tab hG)) ?_
  rintro e w1 ⟨⟨z1, rfl, b1, e1⟩, hg1⟩
  dsimp only
  have q1 := Hid.of e1
  refine hK.out _ _ (hH0.grown hg1) (fun hH1 => ?_)
  clear hK K hH0 hg1 e1
  refine step1 2 (by kernel_rfl) rfl (fun K hK => ?_)
  rw [if_pos (by rfl)]
  go_simp
  refine Calls.mono (squared_num z1 5 b1 (by decide) _) ?_
  rintro e w2 ⟨⟨z2, rfl, b2, e2⟩, hg2⟩
  dsimp only
  have q2 := Hid.of e2
  refine hK.out _ _ (hH1.grown hg2) (fun hH2 => ?_)
  clear hK K hH1 hg2 e2
  refine step1 4 (by kernel_rfl) rfl (fun K hK => ?_)
  rw [if_pos (by rfl)]
  go_simp
  refine Calls.mono (squared_num x 3 hx (by decide) _) ?_
  rintro e w3 ⟨⟨z3, rfl, b3, e3⟩, hg3⟩
  dsimp only
  have q3 := Hid.of e3
  refine hK.out _ _ (hH2.grown hg3) (fun hH3 => ?_)
  clear hK K hH2 hg3 e3
  refine step1 5 (by kernel_rfl) rfl (fun K hK => ?_)
  rw [if_pos (by rfl)]
  go_simp
  refine Calls.mono (times_num z2 z3 b2 b3 _) ?_
  rintro e w4 ⟨⟨z4, rfl, b4, e4⟩, hg4⟩
  dsimp only
  have q4 := Hid.of e4
  refine hK.out _ _ (hH3.grown hg4) (fun hH4 => ?_)
  clear hK K hH3 hg4 e4
  refine step1 7 (by kernel_rfl) rfl (fun K hK => ?_)
  rw [if_pos (by rfl)]
  go_simp
  refine Calls.mono (squared_num x 1 hx (by decide) _) ?_
  rintro e w5 ⟨⟨z5, rfl, b5, e5⟩, hg5⟩
  dsimp only
  have q5 := Hid.of e5
  refine hK.out _ _ (hH4.grown hg5) (fun hH5 => ?_)
  clear hK K hH4 hg5 e5
  refine step1 8 (by kernel_rfl) rfl (fun K hK => ?_)
  rw [if_pos (by rfl)]
  go_simp
  refine Calls.mono (times_num z4 z5 b4 b5 _) ?_
  rintro e w6 ⟨⟨z6, rfl, b6, e6⟩, hg6⟩
  dsimp only
  have q6 := Hid.of e6
  refine hK.out _ _ (hH5.grown hg6) (fun hH6 => ?_)
  clear hK K hH5 hg6 e6
  refine step1 10 (by kernel_rfl) rfl (fun K hK => ?_)
  rw [if_pos (by rfl)]
  go_simp
  refine Calls.mono (times_num z6 x b6 hx _) ?_
  rintro e w7 ⟨⟨z7, rfl, b7, e7⟩, hg7⟩
  dsimp only
  have q7 := Hid.of e7
  refine hK.out _ _ (hH6.grown hg7) (fun hH7 => ?_)
  clear hK K hH6 hg7 e7
  refine step1 11 (by kernel_rfl) rfl (fun K hK => ?_)
  have htr := hH7.tr
  have hgw := hH7.gw
  refine storeN z7 (w.heap.size + 1) 0 rfl (by rfl) rfl rfl htr (fun w9 hw9 => ?_)
  simp only [Act.put]
  have hr9 : w9.rangeAt (w.heap.size + 1) 0 (nl z7) := by rw [hw9]; exact World.rangeAt_setCells_same _ _ _ _ (by rw [nl_length]; exact htr)
  have hg9 : Grown w w9 := by rw [hw9]; exact grown_setCells (by omega) _ _ hgw
  refine hK.out _ _ (hH7.stored hw9) (fun _ => ?_)
  clear hK K hH7 hw9
  refine wpAnyH_done (by kernel_rfl) ?_ _
  refine NoPanic.normal ?_
  repeat go_step
  refine bodyPost_ret (v := numV z7) (resultN Tryd.results32 _ _ (w.heap.size + 1) z7 ?hp hr9) ?hd ?_
  case hp => rfl
  case hd => rfl
  refine ⟨⟨z7, rfl, b7, ?_⟩, hg9⟩
  have f1 := q1.out
  have f2 := q2.out
  have f3 := q3.out
  have f4 := q4.out
  have f5 := q5.out
  have f6 := q6.out
  have f7 := q7.out
  have g := pmul (f6.trans (pmul (f4.trans (pmul (f2.trans (ppow f1)) (f3.trans (ppow (pone x))))) (f5.trans (ppow (pone x))))) (pone x)
  rw [f7, g]
  show _ = x ^ (p - 2) % p
  exact congrArg (fun n => x ^ n % p) (by decide +kernel)
end Go.Proofs.YtfnbodpbdfeiiaaDoor
