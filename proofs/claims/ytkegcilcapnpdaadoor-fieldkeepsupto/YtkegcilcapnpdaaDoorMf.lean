import Derived.Test.YtkegcilcapnpdaaDoorMe
import Derived.Test.YtkegcilcapnpdaaDoorMd
namespace Go.Proofs.YtkegcilcapnpdaaDoor
open Go.RowKit Go.Shelf FieldNum

/-- a number's variable and the result's -/
structure SN (w0 : World) (x : Nat) (wr : World) : Prop where
  row : wr.rangeAt w0.heap.size 0 (nl x)
  tr : wr.there (w0.heap.size + 1) 0 4
  gw : Grown w0 wr

theorem SN.grown {w0 wr w' : World} {x : Nat} (h : SN w0 x wr) (hg : Grown wr w') : SN w0 x w' := ⟨rangeAt_grown h.row hg, there_grown h.tr hg, grown_trans h.gw hg⟩
theorem SN.tab {w0 wr : World} {x : Nat} (h : SN w0 x wr) (hG : w0.rangeAt 5 0 PW) : wr.rangeAt 5 0 PW := rangeAt_grown hG h.gw
theorem SN.stored {w0 wr w' : World} {x z : Nat} (h : SN w0 x wr) (e : w' = wr.setCells (w0.heap.size + 1) 0 (nl z)) : SN w0 x w' := by
  subst e
  exact ⟨World.rangeAt_setCells_apart h.row _ _ _ (by left; omega), World.there_setCells h.tr _ _ _, grown_setCells (by omega) _ _ h.gw⟩

theorem start_num (w : World) (x : Nat) (x0 x1 x2 x3 : Int) (ex : numV x = numW x0 x1 x2 x3) :
    SN w x ((w.alloc (Obj.cells #[Value.int IntKind.u64 x0, Value.int IntKind.u64 x1, Value.int IntKind.u64 x2, Value.int IntKind.u64 x3] 66)).alloc (Obj.cells #[Value.int IntKind.u64 0, Value.int IntKind.u64 0, Value.int IntKind.u64 0, Value.int IntKind.u64 0] 66)).drew := by
  have enl : nl x = [.int .u64 x0, .int .u64 x1, .int .u64 x2, .int .u64 x3] := by
    rw [numV_nl] at ex
    injection ex with ex
    exact congrArg Array.toList ex
  have h1 : (w.alloc (Obj.cells (nl x).toArray 66)).rangeAt w.heap.size 0 (nl x) := rangeAt_alloc_new w 66 (nl x)
  have h2 := there_alloc_new (w.alloc (Obj.cells #[Value.int IntKind.u64 x0, Value.int IntKind.u64 x1, Value.int IntKind.u64 x2, Value.int IntKind.u64 x3] 66)) 66 #[Value.int IntKind.u64 0, Value.int IntKind.u64 0, Value.int IntKind.u64 0, Value.int IntKind.u64 0] 4 (by simp)
  rw [show (w.alloc (Obj.cells #[Value.int IntKind.u64 x0, Value.int IntKind.u64 x1, Value.int IntKind.u64 x2, Value.int IntKind.u64 x3] 66)).heap.size = w.heap.size + 1 by simp] at h2
  have h1' : (w.alloc (Obj.cells #[Value.int IntKind.u64 x0, Value.int IntKind.u64 x1, Value.int IntKind.u64 x2, Value.int IntKind.u64 x3] 66)).rangeAt w.heap.size 0 (nl x) := by
    rw [enl] at h1 ⊢; exact h1
  exact ⟨rangeAt_grown h1' (by go_grown), h2, by go_grown⟩

theorem pmul {a b x i j : Nat} (h1 : a % p = x ^ i % p) (h2 : b % p = x ^ j % p) : a * b % p = x ^ (i + j) % p := by
  rw [Nat.mul_mod, h1, h2, ← Nat.mul_mod, ← Nat.pow_add]
theorem ppow {a x i n : Nat} (h1 : a % p = x ^ i % p) : a ^ n % p = x ^ (i * n) % p := by
  rw [Nat.pow_mod, h1, ← Nat.pow_mod, ← Nat.pow_mul]
theorem pone (x : Nat) : x % p = x ^ 1 % p := by rw [Nat.pow_one]

set_option maxRecDepth 100000 in
set_option maxHeartbeats 2000000 in
theorem inverse_num (x : Nat) (hx : x < M) (w : World) (hG : w.rangeAt 5 0 PW) :
    Calls Tryd.prog 53 #[numV x] w fun e w' => (∃ z, e = .returned (numV z) ∧ z < M ∧ z % p = inv x) ∧ Grown w w' := by
  obtain ⟨x0, x1, x2, x3, ex, _, _, _, _, _⟩ := words_of_num x hx
  have hS0 := start_num w x x0 x1 x2 x3 ex
  rw [ex]
  clear ex
  go_enter Tryd.func53, Tryd.ntmps53
  go_wp2
  refine wp_region_noPanic ?_
  refine wp_region_held_drew (S := SN w x) (by kernel_rfl) hS0 (fun hH0 => ?_)
  clear hS0
  refine takeN 0 x w.heap.size 0 rfl (by kernel_rfl) (by kernel_rfl) (by kernel_rfl) (fun _ _ _ h => h) (by rfl) rfl rfl (fun _ h => h.row) hH0 ?_
  simp only [Act.put, List.setIfInBounds_toArray, List.set_cons_zero, List.set_cons_succ]
  refine takeN 3 x w.heap.size 0 rfl (by kernel_rfl) (by kernel_rfl) (by kernel_rfl) (fun _ _ _ h => h) (by rfl) rfl rfl (fun _ h => h.row) hH0 ?_
  simp only [Act.put, List.setIfInBounds_toArray, List.set_cons_zero, List.set_cons_succ]
  refine takeN 6 x w.heap.size 0 rfl (by kernel_rfl) (by kernel_rfl) (by kernel_rfl) (fun _ _ _ h => h) (by rfl) rfl rfl (fun _ h => h.row) hH0 ?_
  simp only [Act.put, List.setIfInBounds_toArray, List.set_cons_zero, List.set_cons_succ]
  refine takeN 9 x w.heap.size 0 rfl (by kernel_rfl) (by kernel_rfl) (by kernel_rfl) (fun _ _ _ h => h) (by rfl) rfl rfl (fun _ h => h.row) hH0 ?_
  simp only [Act.put, List.setIfInBounds_toArray, List.set_cons_zero, List.set_cons_succ]
  refine step1 1 (by kernel_rfl) rfl (fun K hK => ?_)
  rw [if_pos (by rfl)]
  go_simp
  refine Calls.mono (longPower_num x hx _ (hH0.tab hG)) ?_
  rintro e w1 ⟨⟨z1, rfl, b1, e1⟩, hg1⟩
  dsimp only
  have q1 := Hid.of e1
  refine hK.out _ _ (hH0.grown hg1) (fun hH1 => ?_)
  clear hK K hH0 hg1 e1
  refine step1 2 (by kernel_rfl) rfl (fun K hK => ?_)
  rw [if_pos (by rfl)]
  go_simp
  refine Calls.mono (squared_num z1 5 b1 (by decide) _) ?_
  rintro e w2 ⟨⟨z2, rfl, b2, e2⟩, hg2⟩
  dsimp only
  have q2 := Hid.of e2
  refine hK.out _ _ (hH1.grown hg2) (fun hH2 => ?_)
  clear hK K hH1 hg2 e2
  refine step1 4 (by kernel_rfl) rfl (fun K hK => ?_)
  rw [if_pos (by rfl)]
  go_simp
  refine Calls.mono (squared_num x 3 hx (by decide) _) ?_
  rintro e w3 ⟨⟨z3, rfl, b3, e3⟩, hg3⟩
  dsimp only
  have q3 := Hid.of e3
  refine hK.out _ _ (hH2.grown hg3) (fun hH3 => ?_)
  clear hK K hH2 hg3 e3
  refine step1 5 (by kernel_rfl) rfl (fun K hK => ?_)
  rw [if_pos (by rfl)]
  go_simp
  refine Calls.mono (times_num z2 z3 b2 b3 _) ?_
  rintro e w4 ⟨⟨z4, rfl, b4, e4⟩, hg4⟩
  dsimp only
  have q4 := Hid.of e4
  refine hK.out _ _ (hH3.grown hg4) (fun hH4 => ?_)
  clear hK K hH3 hg4 e4
  refine step1 7 (by kernel_rfl) rfl (fun K hK => ?_)
  rw [if_pos (by rfl)]
  go_simp
  refine Calls.mono (squared_num x 1 hx (by decide) _) ?_
  rintro e w5 ⟨⟨z5, rfl, b5, e5⟩, hg5⟩
  dsimp only
  have q5 := Hid.of e5
  refine hK.out _ _ (hH4.grown hg5) (fun hH5 => ?_)
  clear hK K hH4 hg5 e5
  refine step1 8 (by kernel_rfl) rfl (fun K hK => ?_)
  rw [if_pos (by rfl)]
  go_simp
  refine Calls.mono (times_num z4 z5 b4 b5 _) ?_
  rintro e w6 ⟨⟨z6, rfl, b6, e6⟩, hg6⟩
  dsimp only
  have q6 := Hid.of e6
  refine hK.out _ _ (hH5.grown hg6) (fun hH6 => ?_)
  clear hK K hH5 hg6 e6
  refine step1 10 (by kernel_rfl) rfl (fun K hK => ?_)
  rw [if_pos (by rfl)]
  go_simp
  refine Calls.mono (times_num z6 x b6 hx _) ?_
  rintro e w7 ⟨⟨z7, rfl, b7, e7⟩, hg7⟩
  dsimp only
  have q7 := Hid.of e7
  refine hK.out _ _ (hH6.grown hg7) (fun hH7 => ?_)
  clear hK K hH6 hg7 e7
  refine step1 11 (by kernel_rfl) rfl (fun K hK => ?_)
  have htr := hH7.tr
  have hgw := hH7.gw
  refine storeN z7 (w.heap.size + 1) 0 rfl (by rfl) rfl rfl htr (fun w9 hw9 => ?_)
  simp only [Act.put]
  have hr9 : w9.rangeAt (w.heap.size + 1) 0 (nl z7) := by rw [hw9]; exact World.rangeAt_setCells_same _ _ _ _ (by rw [nl_length]; exact htr)
  have hg9 : Grown w w9 := by rw [hw9]; exact grown_setCells (by omega) _ _ hgw
  refine hK.out _ _ (hH7.stored hw9) (fun _ => ?_)
  clear hK K hH7 hw9
  refine wpAnyH_done (by kernel_rfl) ?_ _
  refine NoPanic.normal ?_
  repeat go_step
  refine bodyPost_ret (v := numV z7) (resultN Tryd.results53 _ _ (w.heap.size + 1) z7 ?hp hr9) ?hd ?_
  case hp => rfl
  case hd => rfl
  refine ⟨⟨z7, rfl, b7, ?_⟩, hg9⟩
  have f1 := q1.out
  have f2 := q2.out
  have f3 := q3.out
  have f4 := q4.out
  have f5 := q5.out
  have f6 := q6.out
  have f7 := q7.out
  have g := pmul (f6.trans (pmul (f4.trans (pmul (f2.trans (ppow f1)) (f3.trans (ppow (pone x))))) (f5.trans (ppow (pone x))))) (pone x)
  rw [f7, g]
  show _ = x ^ (p - 2) % p
  exact congrArg (fun n => x ^ n % p) (by decide +kernel)
end Go.Proofs.YtkegcilcapnpdaaDoor

namespace Go.Proofs.YtkegcilcapnpdaaDoor
open Go.RowKit Go.Shelf FieldNum

set_option maxHeartbeats 1000000 in
theorem Invert_any (x : Nat) (hx : x < M) (w : World) (hG : w.rangeAt 5 0 PW) :
    Calls Tryd.prog 13 #[bv x] w fun e w' => e = .returned (bv (inv x)) ∧ Grown w w' := by
  rw [bv]
  go_enter Tryd.func13, Tryd.ntmps13
  have hr : ∀ c : Array Value, ((w.alloc (.cells (bl x).toArray 23)).alloc (.cells c 23)).rangeAt w.heap.size 0 (bl x) := fun c => rangeAt_grown (rangeAt_alloc_new w 23 (bl x)) (Grown.alloc (Grown.refl _) _ _)
  have ht : ∀ c : Array Value, 32 ≤ c.size → ((w.alloc (.cells (bl x).toArray 23)).alloc (.cells c 23)).there (w.heap.size + 1) 0 32 := fun c hc => by
    have := there_alloc_new (w.alloc (.cells (bl x).toArray 23)) 23 c 32 hc
    rwa [show (w.alloc (.cells (bl x).toArray 23)).heap.size = w.heap.size + 1 by simp] at this
  go_wp2_with (with_reducible show wpList _ _ _ ({ dst := _, op := Op.load 23 _, type := _, pos := _, after := _, guard := _ } :: _) _ _; refine Shut.out ?_)
  show wpList _ _ _ _ _ _
  refine wpList_load32 rfl _ rfl _ rfl x (hr _) ?_
  simp only [Act.put, List.setIfInBounds_toArray, List.set_cons_zero, List.set_cons_succ]
  go_wp2_with fail
  refine Calls.mono (load_num x _) ?_
  rintro e w1 ⟨rfl, hg1⟩
  have hth1 := there_grown (ht _ (by simp)) hg1
  have hgw1 : Grown w w1 := grown_trans (by go_grown) hg1
  go_wp2_with fail
  refine Calls.mono (inverse_num x hx _ (rangeAt_grown hG hgw1)) ?_
  rintro e w2 ⟨⟨z, rfl, hz, hzp⟩, hg2⟩
  have hth2 := there_grown hth1 hg2
  have hgw2 := grown_trans hgw1 hg2
  go_wp2_with fail
  refine Calls.mono (bytes_num z hz _) ?_
  rintro e w3 ⟨rfl, hg3⟩
  have hth3 := there_grown hth2 hg3
  have hgw3 := grown_trans hgw2 hg3
  go_wp2_with (with_reducible show wpList _ _ _ ({ dst := _, op := Op.store 23 _ _, type := _, pos := _, after := _, guard := _ } :: _) _ _; refine Shut.out ?_)
  show wpList _ _ _ _ _ _
  refine wpList_store32 rfl _ _ rfl _ _ rfl rfl hth3 ?_
  simp only [Act.put]
  apply wpList_nil
  repeat go_step
  refine bodyPost_ret (result32 Tryd.results13 _ _ (w.heap.size + 1) _ ?hp (World.rangeAt_setCells_same _ _ _ _ (by rw [bl_length]; exact hth3))) ?hd ?_
  case hp => rfl
  case hd => rfl
  exact ⟨rfl, grown_setCells (by omega) _ _ hgw3⟩
end Go.Proofs.YtkegcilcapnpdaaDoor

namespace Go.Proofs.YtkegcilcapnpdaaDoor
open Go.RowKit Go.Shelf FieldNum

set_option maxRecDepth 100000 in
set_option maxHeartbeats 2000000 in
theorem halfPower_num (x : Nat) (hx : x < M) (w : World) (hG : w.rangeAt 5 0 PW) :
    Calls Tryd.prog 61 #[numV x] w fun e w' => (∃ z, e = .returned (numV z) ∧ z < M ∧ z % p = hp x) ∧ Grown w w' := by
  obtain ⟨x0, x1, x2, x3, ex, _, _, _, _, _⟩ := words_of_num x hx
  have hS0 := start_num w x x0 x1 x2 x3 ex
  rw [ex]
  clear ex
  go_enter Tryd.func61, Tryd.ntmps61
  go_wp2
  refine wp_region_noPanic ?_
  refine wp_region_held_drew (S := SN w x) (by kernel_rfl) hS0 (fun hH0 => ?_)
  clear hS0
  refine takeN 0 x w.heap.size 0 rfl (by kernel_rfl) (by kernel_rfl) (by kernel_rfl) (fun _ _ _ h => h) (by rfl) rfl rfl (fun _ h => h.row) hH0 ?_
  simp only [Act.put, List.setIfInBounds_toArray, List.set_cons_zero, List.set_cons_succ]
  refine takeN 3 x w.heap.size 0 rfl (by kernel_rfl) (by kernel_rfl) (by kernel_rfl) (fun _ _ _ h => h) (by rfl) rfl rfl (fun _ h => h.row) hH0 ?_
  simp only [Act.put, List.setIfInBounds_toArray, List.set_cons_zero, List.set_cons_succ]
  refine takeN 6 x w.heap.size 0 rfl (by kernel_rfl) (by kernel_rfl) (by kernel_rfl) (fun _ _ _ h => h) (by rfl) rfl rfl (fun _ h => h.row) hH0 ?_
  simp only [Act.put, List.setIfInBounds_toArray, List.set_cons_zero, List.set_cons_succ]
  refine step1 1 (by kernel_rfl) rfl (fun K hK => ?_)
  rw [if_pos (by rfl)]
  go_simp
  refine Calls.mono (longPower_num x hx _ (hH0.tab hG)) ?_
  rintro e w1 ⟨⟨z1, rfl, b1, e1⟩, hg1⟩
  dsimp only
  have q1 := Hid.of e1
  refine hK.out _ _ (hH0.grown hg1) (fun hH1 => ?_)
  clear hK K hH0 hg1 e1
  refine step1 2 (by kernel_rfl) rfl (fun K hK => ?_)
  rw [if_pos (by rfl)]
  go_simp
  refine Calls.mono (squared_num z1 4 b1 (by decide) _) ?_
  rintro e w2 ⟨⟨z2, rfl, b2, e2⟩, hg2⟩
  dsimp only
  have q2 := Hid.of e2
  refine hK.out _ _ (hH1.grown hg2) (fun hH2 => ?_)
  clear hK K hH1 hg2 e2
  refine step1 4 (by kernel_rfl) rfl (fun K hK => ?_)
  rw [if_pos (by rfl)]
  go_simp
  refine Calls.mono (squared_num x 2 hx (by decide) _) ?_
  rintro e w3 ⟨⟨z3, rfl, b3, e3⟩, hg3⟩
  dsimp only
  have q3 := Hid.of e3
  refine hK.out _ _ (hH2.grown hg3) (fun hH3 => ?_)
  clear hK K hH2 hg3 e3
  refine step1 5 (by kernel_rfl) rfl (fun K hK => ?_)
  rw [if_pos (by rfl)]
  go_simp
  refine Calls.mono (times_num z2 z3 b2 b3 _) ?_
  rintro e w4 ⟨⟨z4, rfl, b4, e4⟩, hg4⟩
  dsimp only
  have q4 := Hid.of e4
  refine hK.out _ _ (hH3.grown hg4) (fun hH4 => ?_)
  clear hK K hH3 hg4 e4
  refine step1 7 (by kernel_rfl) rfl (fun K hK => ?_)
  rw [if_pos (by rfl)]
  go_simp
  refine Calls.mono (squared_num x 1 hx (by decide) _) ?_
  rintro e w5 ⟨⟨z5, rfl, b5, e5⟩, hg5⟩
  dsimp only
  have q5 := Hid.of e5
  refine hK.out _ _ (hH4.grown hg5) (fun hH5 => ?_)
  clear hK K hH4 hg5 e5
  refine step1 8 (by kernel_rfl) rfl (fun K hK => ?_)
  rw [if_pos (by rfl)]
  go_simp
  refine Calls.mono (times_num z4 z5 b4 b5 _) ?_
  rintro e w6 ⟨⟨z6, rfl, b6, e6⟩, hg6⟩
  dsimp only
  have q6 := Hid.of e6
  refine hK.out _ _ (hH5.grown hg6) (fun hH6 => ?_)
  clear hK K hH5 hg6 e6
  refine step1 9 (by kernel_rfl) rfl (fun K hK => ?_)
  have htr := hH6.tr
  have hgw := hH6.gw
  refine storeN z6 (w.heap.size + 1) 0 rfl (by rfl) rfl rfl htr (fun w9 hw9 => ?_)
  simp only [Act.put]
  have hr9 : w9.rangeAt (w.heap.size + 1) 0 (nl z6) := by rw [hw9]; exact World.rangeAt_setCells_same _ _ _ _ (by rw [nl_length]; exact htr)
  have hg9 : Grown w w9 := by rw [hw9]; exact grown_setCells (by omega) _ _ hgw
  refine hK.out _ _ (hH6.stored hw9) (fun _ => ?_)
  clear hK K hH6 hw9
  refine wpAnyH_done (by kernel_rfl) ?_ _
  refine NoPanic.normal ?_
  repeat go_step
  refine bodyPost_ret (v := numV z6) (resultN Tryd.results61 _ _ (w.heap.size + 1) z6 ?hp hr9) ?hd ?_
  case hp => rfl
  case hd => rfl
  refine ⟨⟨z6, rfl, b6, ?_⟩, hg9⟩
  have f1 := q1.out
  have f2 := q2.out
  have f3 := q3.out
  have f4 := q4.out
  have f5 := q5.out
  have f6 := q6.out
  have g := pmul (f4.trans (pmul (f2.trans (ppow f1)) (f3.trans (ppow (pone x))))) (f5.trans (ppow (pone x)))
  rw [f6, g]
  show _ = x ^ ((p - 1) / 2) % p
  exact congrArg (fun n => x ^ n % p) (by decide +kernel)
end Go.Proofs.YtkegcilcapnpdaaDoor

namespace Go.Proofs.YtkegcilcapnpdaaDoor
open Go.RowKit Go.Shelf FieldNum

set_option maxRecDepth 100000 in
theorem less_step {x y i : Nat} (h : x / 256 ^ (i + 1) = y / 256 ^ (i + 1)) : (x / 256 ^ i % 256 = y / 256 ^ i % 256 → x / 256 ^ i = y / 256 ^ i) ∧ (x / 256 ^ i % 256 ≠ y / 256 ^ i % 256 → (x / 256 ^ i % 256 < y / 256 ^ i % 256 ↔ x < y)) := by
  have e : ∀ z, z / 256 ^ (i + 1) = z / 256 ^ i / 256 := fun z => by rw [Nat.pow_succ, Nat.div_div_eq_div_mul]
  rw [e, e] at h
  refine ⟨fun h1 => by omega, fun h1 => ?_⟩
  have hp : 0 < 256 ^ i := Nat.pow_pos (by decide)
  have hlt : x / 256 ^ i % 256 < y / 256 ^ i % 256 ↔ x / 256 ^ i < y / 256 ^ i := by omega
  rw [hlt]
  have hne : x / 256 ^ i ≠ y / 256 ^ i := by omega
  constructor
  · intro h2
    apply Nat.lt_of_not_le
    intro h3
    have := Nat.div_le_div_right (c := 256 ^ i) h3
    omega
  · intro h2
    have := Nat.div_le_div_right (c := 256 ^ i) (Nat.le_of_lt h2)
    omega

set_option maxHeartbeats 1000000 in
theorem less_any (x y : Nat) (hx : x < M) (hy : y < M) (w : World) :
    Calls Tryd.prog 16 #[bv x, bv y] w fun e w' => e = .returned (.bool (decide (x < y))) ∧ Grown w w' := by
  obtain ⟨hE, hW⟩ := params2 w x y
  rw [bv, bv]
  have hcx := fun i (hi : i < 32) => hE _ (.head _) i _ (bl_get x i hi)
  have hcy := fun i (hi : i < 32) => hE _ (.tail _ (.head _)) i _ (bl_get y i hi)
  simp only [Nat.zero_add] at hcx hcy
  go_enter Tryd.func16, Tryd.ntmps16
  go_wp2
  generalize ((w.alloc (Obj.cells (bl x).toArray 23)).alloc (Obj.cells (bl y).toArray 23)) = W0 at *
  clear hE
  go_loopw [5] (fun v5 wr => ∃ k n : Nat, v5 = .int .i64 ((k : Int) - 1) ∧ k ≤ 32 ∧ wr = W0.drewN n ∧ x / 256 ^ k = y / 256 ^ k) (fun v5 _ => (intOf v5 + 1).toNat)
  case atStart =>
    refine ⟨32, 0, rfl, by decide, rfl, ?_⟩
    have e : 256 ^ 32 = M := by decide
    rw [e, Nat.div_eq_of_lt hx, Nat.div_eq_of_lt hy]
  case round =>
    obtain ⟨k, n, rfl, hk, rfl, hdiv⟩ := hrel
    rcases Nat.eq_zero_or_pos k with rfl | hpos
    · have hxy : x = y := by simpa using hdiv
      subst hxy
      clear hcx hcy hdiv
      go_wp2
      go_ret
      exact ⟨by simp, grown_drewN hW _⟩
    · obtain ⟨i, rfl⟩ : ∃ i, k = i + 1 := ⟨k - 1, by omega⟩
      obtain ⟨s1, s2⟩ := less_step hdiv
      have cx := hcx i (by omega)
      have cy := hcy i (by omega)
      clear hcx hcy hdiv
      have ei : ((i + 1 : Nat) : Int) - 1 = (i : Int) := by omega
      rw [ei]
      clear ei
      have b0 : (0 : Int) ≤ (i : Int) := by omega
      have b1 : (i : Int) < 32 := by omega
      have wi : IntKind.i64.wrap ((i : Int) - 1) = (i : Int) - 1 := by rw [IntKind.wrap_i64]; omega
      generalize hbx : x / 256 ^ i % 256 = bx at *
      generalize hby : y / 256 ^ i % 256 = by' at *

      by_cases hb : bx = by'
      · have s1' := s1 hb
        subst hb
        clear s1 s2 hbx hby
        have sd : Hid (x / 256 ^ i = y / 256 ^ i) := s1'
        clear s1'
        go_wp2
        go_quiet (fail)
        go_wp2
        go_roundw
        case rel => exact ⟨i, _, rfl, by omega, rfl, sd.out⟩
        case measure => simp [intOf]
      · have s2' := s2 hb
        have hbi : ¬ ((bx : Int) = (by' : Int)) := by omega
        clear s1 s2 hbx hby
        have sd : Hid (bx < by' ↔ x < y) := s2'
        clear s2'
        go_wp2
        go_quiet (fail)
        go_wp2
        go_quiet (fail)
        go_wp2
        go_ret
        refine ⟨?_, hW⟩
        have h : bx < by' ↔ x < y := sd.out
        show Ending.returned (.bool (decide (bx < by'))) = _
        rw [decide_eq_decide.2 h]
end Go.Proofs.YtkegcilcapnpdaaDoor

namespace Go.Proofs.YtkegcilcapnpdaaDoor
open Go.RowKit Go.Shelf FieldNum

theorem set_other (w : World) (g i j : Nat) (v : Value) (h : j ≠ i) : (w.setCell ⟨g, i, none⟩ v).cell? ⟨g, j, none⟩ = w.cell? ⟨g, j, none⟩ := by
  apply World.cell?_setCell_other
  intro e
  injection e with _ e2 _
  omega

/-- how far the bytes 255 are laid -/
structure PR (w0 : World) (g k : Nat) (wr : World) : Prop where
  lo : ∀ j, j < k → wr.cell? ⟨g, j, none⟩ = some (.int .u8 255)
  hi : ∀ j, k ≤ j → j < 32 → wr.cell? ⟨g, j, none⟩ = some (.int .u8 0)
  fr : ∀ j, wr.frozen? ⟨g, j, none⟩ = false
  tr : wr.there w0.heap.size 0 32
  gg : g = w0.heap.size + 1
  gw : Grown w0 wr

theorem PR.step {w0 wr : World} {g k : Nat} (h : PR w0 g k wr) (hk : k < 32) : PR w0 g (k + 1) (wr.setCell ⟨g, k, none⟩ (.int .u8 255)) := by
  have hgg := h.gg
  have hne : ∀ j, j ≠ k → (wr.setCell ⟨g, k, none⟩ (.int .u8 255)).cell? ⟨g, j, none⟩ = wr.cell? ⟨g, j, none⟩ := by
    intro j hj
    exact set_other _ _ _ _ _ hj
  refine ⟨fun j hj => ?_, fun j h1 h2 => ?_, fun j => (World.frozen?_setCell _ _ _ _).trans (h.fr j), there_setCell h.tr _ _, h.gg, Grown.setCell h.gw (by simp; omega) _⟩
  · by_cases e : j = k
    · subst e
      have := h.hi j (Nat.le_refl _) hk
      simp [go_sem, this]
    · rw [hne j e]; exact h.lo j (by omega)
  · rw [hne j (by omega)]; exact h.hi j (by omega) h2

theorem bl_p : ∀ j, j < 32 → (bl p)[j]? = some (.int .u8 (if j = 0 then 237 else if j = 31 then 127 else 255)) := by
  have h : ∀ j, j < 32 → ((p / 256 ^ j % 256 : Nat) : Int) = (if j = 0 then 237 else if j = 31 then 127 else 255) := by decide +kernel
  intro j hj
  rw [bl_get p j hj, h j hj]

set_option maxRecDepth 100000 in
set_option maxHeartbeats 1000000 in
theorem prime_any (w : World) : Calls Tryd.prog 17 #[] w fun e w' => e = .returned (bv p) ∧ Grown w w' := by
  have hP0 : PR w (w.heap.size + 1) 0 ((w.alloc (Obj.cells #[Value.int IntKind.u8 0, Value.int IntKind.u8 0, Value.int IntKind.u8 0, Value.int IntKind.u8 0, Value.int IntKind.u8 0, Value.int IntKind.u8 0, Value.int IntKind.u8 0, Value.int IntKind.u8 0, Value.int IntKind.u8 0, Value.int IntKind.u8 0, Value.int IntKind.u8 0, Value.int IntKind.u8 0, Value.int IntKind.u8 0, Value.int IntKind.u8 0, Value.int IntKind.u8 0, Value.int IntKind.u8 0, Value.int IntKind.u8 0, Value.int IntKind.u8 0, Value.int IntKind.u8 0, Value.int IntKind.u8 0, Value.int IntKind.u8 0, Value.int IntKind.u8 0, Value.int IntKind.u8 0, Value.int IntKind.u8 0, Value.int IntKind.u8 0, Value.int IntKind.u8 0, Value.int IntKind.u8 0, Value.int IntKind.u8 0, Value.int IntKind.u8 0, Value.int IntKind.u8 0, Value.int IntKind.u8 0, Value.int IntKind.u8 0] 23)).alloc (Obj.cells #[Value.int IntKind.u8 0, Value.int IntKind.u8 0, Value.int IntKind.u8 0, Value.int IntKind.u8 0, Value.int IntKind.u8 0, Value.int IntKind.u8 0, Value.int IntKind.u8 0, Value.int IntKind.u8 0, Value.int IntKind.u8 0, Value.int IntKind.u8 0, Value.int IntKind.u8 0, Value.int IntKind.u8 0, Value.int IntKind.u8 0, Value.int IntKind.u8 0, Value.int IntKind.u8 0, Value.int IntKind.u8 0, Value.int IntKind.u8 0, Value.int IntKind.u8 0, Value.int IntKind.u8 0, Value.int IntKind.u8 0, Value.int IntKind.u8 0, Value.int IntKind.u8 0, Value.int IntKind.u8 0, Value.int IntKind.u8 0, Value.int IntKind.u8 0, Value.int IntKind.u8 0, Value.int IntKind.u8 0, Value.int IntKind.u8 0, Value.int IntKind.u8 0, Value.int IntKind.u8 0, Value.int IntKind.u8 0, Value.int IntKind.u8 0] 23)) := by
    have e2 : ((w.alloc (Obj.cells #[Value.int IntKind.u8 0, Value.int IntKind.u8 0, Value.int IntKind.u8 0, Value.int IntKind.u8 0, Value.int IntKind.u8 0, Value.int IntKind.u8 0, Value.int IntKind.u8 0, Value.int IntKind.u8 0, Value.int IntKind.u8 0, Value.int IntKind.u8 0, Value.int IntKind.u8 0, Value.int IntKind.u8 0, Value.int IntKind.u8 0, Value.int IntKind.u8 0, Value.int IntKind.u8 0, Value.int IntKind.u8 0, Value.int IntKind.u8 0, Value.int IntKind.u8 0, Value.int IntKind.u8 0, Value.int IntKind.u8 0, Value.int IntKind.u8 0, Value.int IntKind.u8 0, Value.int IntKind.u8 0, Value.int IntKind.u8 0, Value.int IntKind.u8 0, Value.int IntKind.u8 0, Value.int IntKind.u8 0, Value.int IntKind.u8 0, Value.int IntKind.u8 0, Value.int IntKind.u8 0, Value.int IntKind.u8 0, Value.int IntKind.u8 0] 23)).alloc (Obj.cells #[Value.int IntKind.u8 0, Value.int IntKind.u8 0, Value.int IntKind.u8 0, Value.int IntKind.u8 0, Value.int IntKind.u8 0, Value.int IntKind.u8 0, Value.int IntKind.u8 0, Value.int IntKind.u8 0, Value.int IntKind.u8 0, Value.int IntKind.u8 0, Value.int IntKind.u8 0, Value.int IntKind.u8 0, Value.int IntKind.u8 0, Value.int IntKind.u8 0, Value.int IntKind.u8 0, Value.int IntKind.u8 0, Value.int IntKind.u8 0, Value.int IntKind.u8 0, Value.int IntKind.u8 0, Value.int IntKind.u8 0, Value.int IntKind.u8 0, Value.int IntKind.u8 0, Value.int IntKind.u8 0, Value.int IntKind.u8 0, Value.int IntKind.u8 0, Value.int IntKind.u8 0, Value.int IntKind.u8 0, Value.int IntKind.u8 0, Value.int IntKind.u8 0, Value.int IntKind.u8 0, Value.int IntKind.u8 0, Value.int IntKind.u8 0] 23)).heap[w.heap.size + 1]? = some (Obj.cells #[Value.int IntKind.u8 0, Value.int IntKind.u8 0, Value.int IntKind.u8 0, Value.int IntKind.u8 0, Value.int IntKind.u8 0, Value.int IntKind.u8 0, Value.int IntKind.u8 0, Value.int IntKind.u8 0, Value.int IntKind.u8 0, Value.int IntKind.u8 0, Value.int IntKind.u8 0, Value.int IntKind.u8 0, Value.int IntKind.u8 0, Value.int IntKind.u8 0, Value.int IntKind.u8 0, Value.int IntKind.u8 0, Value.int IntKind.u8 0, Value.int IntKind.u8 0, Value.int IntKind.u8 0, Value.int IntKind.u8 0, Value.int IntKind.u8 0, Value.int IntKind.u8 0, Value.int IntKind.u8 0, Value.int IntKind.u8 0, Value.int IntKind.u8 0, Value.int IntKind.u8 0, Value.int IntKind.u8 0, Value.int IntKind.u8 0, Value.int IntKind.u8 0, Value.int IntKind.u8 0, Value.int IntKind.u8 0, Value.int IntKind.u8 0] 23) := heap_alloc2_new w _ _
    have h1 := there_grown (there_alloc_new w 23 #[Value.int IntKind.u8 0, Value.int IntKind.u8 0, Value.int IntKind.u8 0, Value.int IntKind.u8 0, Value.int IntKind.u8 0, Value.int IntKind.u8 0, Value.int IntKind.u8 0, Value.int IntKind.u8 0, Value.int IntKind.u8 0, Value.int IntKind.u8 0, Value.int IntKind.u8 0, Value.int IntKind.u8 0, Value.int IntKind.u8 0, Value.int IntKind.u8 0, Value.int IntKind.u8 0, Value.int IntKind.u8 0, Value.int IntKind.u8 0, Value.int IntKind.u8 0, Value.int IntKind.u8 0, Value.int IntKind.u8 0, Value.int IntKind.u8 0, Value.int IntKind.u8 0, Value.int IntKind.u8 0, Value.int IntKind.u8 0, Value.int IntKind.u8 0, Value.int IntKind.u8 0, Value.int IntKind.u8 0, Value.int IntKind.u8 0, Value.int IntKind.u8 0, Value.int IntKind.u8 0, Value.int IntKind.u8 0, Value.int IntKind.u8 0] 32 (by simp)) (Grown.alloc (Grown.refl _) #[Value.int IntKind.u8 0, Value.int IntKind.u8 0, Value.int IntKind.u8 0, Value.int IntKind.u8 0, Value.int IntKind.u8 0, Value.int IntKind.u8 0, Value.int IntKind.u8 0, Value.int IntKind.u8 0, Value.int IntKind.u8 0, Value.int IntKind.u8 0, Value.int IntKind.u8 0, Value.int IntKind.u8 0, Value.int IntKind.u8 0, Value.int IntKind.u8 0, Value.int IntKind.u8 0, Value.int IntKind.u8 0, Value.int IntKind.u8 0, Value.int IntKind.u8 0, Value.int IntKind.u8 0, Value.int IntKind.u8 0, Value.int IntKind.u8 0, Value.int IntKind.u8 0, Value.int IntKind.u8 0, Value.int IntKind.u8 0, Value.int IntKind.u8 0, Value.int IntKind.u8 0, Value.int IntKind.u8 0, Value.int IntKind.u8 0, Value.int IntKind.u8 0, Value.int IntKind.u8 0, Value.int IntKind.u8 0, Value.int IntKind.u8 0] 23)
    refine ⟨fun j hj => by omega, fun j _ hj => ?_, fun j => frozen_of_row _ _ _ _ _ e2, h1, rfl, by go_grown⟩
    rw [cell_of_row _ _ _ _ _ _ e2]
    show ((List.replicate 32 (Value.int IntKind.u8 0)).toArray)[j]? = _
    rw [List.getElem?_toArray, List.getElem?_replicate, if_pos hj]
  go_enter Tryd.func17, Tryd.ntmps17
  go_wp2
  generalize ((w.alloc (Obj.cells #[Value.int IntKind.u8 0, Value.int IntKind.u8 0, Value.int IntKind.u8 0, Value.int IntKind.u8 0, Value.int IntKind.u8 0, Value.int IntKind.u8 0, Value.int IntKind.u8 0, Value.int IntKind.u8 0, Value.int IntKind.u8 0, Value.int IntKind.u8 0, Value.int IntKind.u8 0, Value.int IntKind.u8 0, Value.int IntKind.u8 0, Value.int IntKind.u8 0, Value.int IntKind.u8 0, Value.int IntKind.u8 0, Value.int IntKind.u8 0, Value.int IntKind.u8 0, Value.int IntKind.u8 0, Value.int IntKind.u8 0, Value.int IntKind.u8 0, Value.int IntKind.u8 0, Value.int IntKind.u8 0, Value.int IntKind.u8 0, Value.int IntKind.u8 0, Value.int IntKind.u8 0, Value.int IntKind.u8 0, Value.int IntKind.u8 0, Value.int IntKind.u8 0, Value.int IntKind.u8 0, Value.int IntKind.u8 0, Value.int IntKind.u8 0] 23)).alloc (Obj.cells #[Value.int IntKind.u8 0, Value.int IntKind.u8 0, Value.int IntKind.u8 0, Value.int IntKind.u8 0, Value.int IntKind.u8 0, Value.int IntKind.u8 0, Value.int IntKind.u8 0, Value.int IntKind.u8 0, Value.int IntKind.u8 0, Value.int IntKind.u8 0, Value.int IntKind.u8 0, Value.int IntKind.u8 0, Value.int IntKind.u8 0, Value.int IntKind.u8 0, Value.int IntKind.u8 0, Value.int IntKind.u8 0, Value.int IntKind.u8 0, Value.int IntKind.u8 0, Value.int IntKind.u8 0, Value.int IntKind.u8 0, Value.int IntKind.u8 0, Value.int IntKind.u8 0, Value.int IntKind.u8 0, Value.int IntKind.u8 0, Value.int IntKind.u8 0, Value.int IntKind.u8 0, Value.int IntKind.u8 0, Value.int IntKind.u8 0, Value.int IntKind.u8 0, Value.int IntKind.u8 0, Value.int IntKind.u8 0, Value.int IntKind.u8 0] 23)) = W0 at hP0 ⊢
  go_loopw [2] (fun v2 wr => ∃ k : Nat, v2 = .int .i64 k ∧ k ≤ 32 ∧ PR w (w.heap.size + 1) k wr) (fun v2 _ => (32 - intOf v2).toNat)
  case atStart => exact ⟨0, rfl, by decide, hP0⟩
  case round =>
    obtain ⟨k, rfl, hk, hP⟩ := hrel
    clear hP0
    by_cases hlt : k < 32
    · have c := hP.hi k (Nat.le_refl _) hlt
      have f := hP.fr k
      have hS := hP.step hlt
      have b0 : (0 : Int) ≤ (k : Int) := by omega
      have b1 : (k : Int) < 32 := by omega
      have wk : IntKind.i64.wrap ((k : Int) + 1) = (k : Int) + 1 := by rw [IntKind.wrap_i64]; omega
      clear hP
      go_wp2
      go_roundw
      case rel => exact ⟨k + 1, by go_num, by omega, hS⟩
      case measure => simp [intOf]; omega
    · have h32 : k = 32 := by omega
      subst h32
      have c0 := hP.lo 0 (by decide)
      have c31 := hP.lo 31 (by decide)
      have fr := hP.fr
      have hr : ((wr.setCell ⟨w.heap.size + 1, 0, none⟩ (Value.int IntKind.u8 237)).setCell ⟨w.heap.size + 1, 31, none⟩ (Value.int IntKind.u8 127)).rangeAt (w.heap.size + 1) 0 (bl p) := by
        intro j v hv
        have hj : j < 32 := by have := (List.getElem?_eq_some_iff.1 hv).1; rwa [bl_length] at this
        rw [bl_p j hj] at hv
        injection hv with hv
        subst hv
        rw [Nat.zero_add]
        by_cases e31 : j = 31
        · subst e31; simp [go_sem, c31]
        · rw [set_other _ _ _ _ _ e31]
          by_cases e0 : j = 0
          · subst e0; simp [go_sem, c0]
          · rw [set_other _ _ _ _ _ e0, if_neg e0, if_neg e31]
            exact hP.lo j hj
      have ht : ((wr.setCell ⟨w.heap.size + 1, 0, none⟩ (Value.int IntKind.u8 237)).setCell ⟨w.heap.size + 1, 31, none⟩ (Value.int IntKind.u8 127)).there w.heap.size 0 32 := there_setCell (there_setCell hP.tr _ _) _ _
      have hgw : Grown w ((wr.setCell ⟨w.heap.size + 1, 0, none⟩ (Value.int IntKind.u8 237)).setCell ⟨w.heap.size + 1, 31, none⟩ (Value.int IntKind.u8 127)) := Grown.setCell (Grown.setCell hP.gw (by simp) _) (by simp) _
      clear hP
      go_wp2_with (with_reducible show wpList _ _ _ ({ dst := _, op := Op.load 23 _, type := _, pos := _, after := _, guard := _ } :: _) _ _; refine Shut.out ?_)
      show wpList _ _ _ _ _ _
      refine wpList_load32 rfl _ rfl _ rfl p hr ?_
      simp only [Act.put, List.setIfInBounds_toArray, List.set_cons_zero, List.set_cons_succ]
      refine wpList_store32 rfl _ _ rfl _ p rfl rfl ht ?_
      simp only [Act.put]
      apply wpList_nil
      repeat go_step
      refine bodyPost_ret (result32 Tryd.results17 _ _ w.heap.size _ ?hp (World.rangeAt_setCells_same _ _ _ _ (by rw [bl_length]; exact ht))) ?hd ?_
      case hp => rfl
      case hd => rfl
      exact ⟨rfl, grown_setCells (Nat.le_refl _) _ _ hgw⟩
end Go.Proofs.YtkegcilcapnpdaaDoor

namespace Go.Proofs.YtkegcilcapnpdaaDoor
open Go.RowKit Go.Shelf FieldNum

theorem p_lt_M : p < M := by decide +kernel
theorem finv_lt (x : Nat) : inv x < M := lt256 (inv_lt x)

theorem wpList_val {ops : Array Oper} {Q : Exit → Act → World → Prop} {rest : List Oper} {o : Oper} {a : Act} {w : World} (v : Value) (hgd : o.guard = none) (hy : (execOp a.eval o).run Tryd.prog w = .ok (.value v) w)
    (h : wpList Tryd.prog ops Q rest (a.put o.dst v) w) : wpList Tryd.prog ops Q (o :: rest) a w :=
  wpList_plain hgd fun _ hK => by
    unfold Oper.wp
    rw [hy]
    exact hK _ _ h

theorem less_true (x y : Nat) (hx : x < M) (hy : y < M) (h : x < y) (w : World) :
    Calls Tryd.prog 16 #[bv x, bv y] w fun e w' => e = .returned (.bool true) ∧ Grown w w' := by
  have := less_any x y hx hy w
  rwa [decide_eq_true h] at this
end Go.Proofs.YtkegcilcapnpdaaDoor
