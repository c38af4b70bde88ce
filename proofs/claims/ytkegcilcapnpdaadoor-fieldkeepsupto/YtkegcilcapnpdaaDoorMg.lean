import Derived.Test.YtkegcilcapnpdaaDoorMf
import Derived.Test.YtkegcilcapnpdaaDoorMe
namespace Go.Proofs.YtkegcilcapnpdaaDoor
open Go.RowKit Go.Shelf FieldNum

set_option maxRecDepth 100000 in
theorem hp_lt (x : Nat) : hp x < M := mod_lt256 _

set_option maxRecDepth 100000 in
set_option maxHeartbeats 1000000 in
theorem leg0 (x : Nat) (hx : x < M) (h0 : Hid (hp x = 0)) (w : World) (hG : w.rangeAt 5 0 PW) :
    Calls Tryd.prog 22 #[bv x] w fun e w' => e = .returned (.int .i64 (leg x)) ∧ Grown w w' := by
  have hb := hp_lt x
  rw [bv]
  go_enter Tryd.func22, Tryd.ntmps22
  go_wp2_with (with_reducible show wpList _ _ _ ({ dst := _, op := Op.load 23 _, type := _, pos := _, after := _, guard := _ } :: _) _ _; refine Shut.out ?_)
  show wpList _ _ _ _ _ _
  obtain ⟨hE, hW⟩ := params1 w x
  generalize (w.alloc (Obj.cells (bl x).toArray 23)) = W0 at hE hW ⊢
  refine wpList_load32 rfl _ rfl _ rfl x (hE _ (.head _)) ?_
  simp only [Act.put, List.setIfInBounds_toArray, List.set_cons_zero, List.set_cons_succ]
  go_wp2_with fail
  refine Calls.mono (load_num x _) ?_
  rintro e w1 ⟨rfl, hg1⟩
  dsimp only
  go_step
  have hW1 := grown_trans hW hg1
  clear hE hW hg1
  go_wp2_with fail
  refine Calls.mono (halfPower_num x hx _ (rangeAt_grown hG hW1)) ?_
  rintro e w2 ⟨⟨z, rfl, hz, hzp⟩, hg2⟩
  have hzq := Hid.of hzp
  clear hzp
  dsimp only
  go_step
  have hW2 := grown_trans hW1 hg2
  clear hW1 hg2
  go_wp2_with fail
  refine Calls.mono (canonical_num z hz _) ?_
  rw [hzq.out]
  rintro e w3 ⟨rfl, hg3⟩
  dsimp only
  go_step
  have hW3 := grown_trans hW2 hg3
  clear hW2 hg3
  apply wpList_nil
  repeat ((fail_if_success (with_reducible show Code.wp _ (Code.region _ _ _) _ _ _)); go_step)
  apply wp_region_lit
  refine wpList_val (numV 0) rfl (by kernel_rfl) ?_
  simp only [Act.put, List.setIfInBounds_toArray, List.set_cons_zero, List.set_cons_succ]
  refine wpList_val (.bool true) rfl ((exec_eqlN rfl (hp x) 0 rfl rfl hb (by decide) _).trans (by rw [decide_eq_true h0.out])) ?_
  simp only [Act.put, List.setIfInBounds_toArray, List.set_cons_zero, List.set_cons_succ]
  refine wpList_val (.bool true) rfl rfl ?_
  simp only [Act.put, List.setIfInBounds_toArray, List.set_cons_zero, List.set_cons_succ]
  apply wpList_nil
  clear hG
  go_wp2
  go_ret
  refine ⟨?_, hW3⟩
  have hl : leg x = 0 := by unfold leg; rw [if_pos h0.out]
  rw [hl]; rfl

set_option maxRecDepth 100000 in
set_option maxHeartbeats 1000000 in
theorem leg1 (x : Nat) (hx : x < M) (h0 : Hid (¬ hp x = 0)) (h1 : Hid (hp x = 1)) (w : World) (hG : w.rangeAt 5 0 PW) (hO : w.rangeAt 0 0 (nl 1)) :
    Calls Tryd.prog 22 #[bv x] w fun e w' => e = .returned (.int .i64 (leg x)) ∧ Grown w w' := by
  have hb := hp_lt x
  rw [bv]
  go_enter Tryd.func22, Tryd.ntmps22
  go_wp2_with (with_reducible show wpList _ _ _ ({ dst := _, op := Op.load 23 _, type := _, pos := _, after := _, guard := _ } :: _) _ _; refine Shut.out ?_)
  show wpList _ _ _ _ _ _
  obtain ⟨hE, hW⟩ := params1 w x
  generalize (w.alloc (Obj.cells (bl x).toArray 23)) = W0 at hE hW ⊢
  refine wpList_load32 rfl _ rfl _ rfl x (hE _ (.head _)) ?_
  simp only [Act.put, List.setIfInBounds_toArray, List.set_cons_zero, List.set_cons_succ]
  go_wp2_with fail
  refine Calls.mono (load_num x _) ?_
  rintro e w1 ⟨rfl, hg1⟩
  dsimp only
  go_step
  have hW1 := grown_trans hW hg1
  clear hE hW hg1
  go_wp2_with fail
  refine Calls.mono (halfPower_num x hx _ (rangeAt_grown hG hW1)) ?_
  rintro e w2 ⟨⟨z, rfl, hz, hzp⟩, hg2⟩
  have hzq := Hid.of hzp
  clear hzp
  dsimp only
  go_step
  have hW2 := grown_trans hW1 hg2
  clear hW1 hg2
  go_wp2_with fail
  refine Calls.mono (canonical_num z hz _) ?_
  rw [hzq.out]
  rintro e w3 ⟨rfl, hg3⟩
  dsimp only
  go_step
  have hW3 := grown_trans hW2 hg3
  clear hW2 hg3
  apply wpList_nil
  repeat ((fail_if_success (with_reducible show Code.wp _ (Code.region _ _ _) _ _ _)); go_step)
  apply wp_region_lit
  refine wpList_val (numV 0) rfl (by kernel_rfl) ?_
  simp only [Act.put, List.setIfInBounds_toArray, List.set_cons_zero, List.set_cons_succ]
  refine wpList_val (.bool false) rfl ((exec_eqlN rfl (hp x) 0 rfl rfl hb (by decide) _).trans (by rw [decide_eq_false h0.out])) ?_
  simp only [Act.put, List.setIfInBounds_toArray, List.set_cons_zero, List.set_cons_succ]
  refine wpList_val (.bool false) rfl rfl ?_
  simp only [Act.put, List.setIfInBounds_toArray, List.set_cons_zero, List.set_cons_succ]
  apply wpList_nil
  repeat ((fail_if_success (with_reducible show Code.wp _ (Code.region _ _ _) _ _ _)); go_step)
  apply wp_region_lit
  refine wpList_load_mid rfl 66 _ rfl 0 0 rfl (nl 1) _ (rangeAt_grown hO hW3) Tryd.underlying66 rfl (by rw [nl_length]; exact infoN) ?_
  rw [← numV_nl]
  simp only [Act.put, List.setIfInBounds_toArray, List.set_cons_zero, List.set_cons_succ]
  refine wpList_val (.bool true) rfl ((exec_eqlN rfl (hp x) 1 rfl rfl hb (by decide) _).trans (by rw [decide_eq_true h1.out])) ?_
  simp only [Act.put, List.setIfInBounds_toArray, List.set_cons_zero, List.set_cons_succ]
  refine wpList_val (.bool true) rfl rfl ?_
  simp only [Act.put, List.setIfInBounds_toArray, List.set_cons_zero, List.set_cons_succ]
  apply wpList_nil
  clear hG hO
  go_wp2
  go_ret
  refine ⟨?_, hW3⟩
  have hl : leg x = 1 := by unfold leg; rw [if_neg h0.out, if_pos h1.out]
  rw [hl]; rfl

set_option maxRecDepth 100000 in
set_option maxHeartbeats 1000000 in
theorem leg2 (x : Nat) (hx : x < M) (h0 : Hid (¬ hp x = 0)) (h1 : Hid (¬ hp x = 1)) (w : World) (hG : w.rangeAt 5 0 PW) (hO : w.rangeAt 0 0 (nl 1)) :
    Calls Tryd.prog 22 #[bv x] w fun e w' => e = .returned (.int .i64 (leg x)) ∧ Grown w w' := by
  have hb := hp_lt x
  rw [bv]
  go_enter Tryd.func22, Tryd.ntmps22
  go_wp2_with (with_reducible show wpList _ _ _ ({ dst := _, op := Op.load 23 _, type := _, pos := _, after := _, guard := _ } :: _) _ _; refine Shut.out ?_)
  show wpList _ _ _ _ _ _
  obtain ⟨hE, hW⟩ := params1 w x
  generalize (w.alloc (Obj.cells (bl x).toArray 23)) = W0 at hE hW ⊢
  refine wpList_load32 rfl _ rfl _ rfl x (hE _ (.head _)) ?_
  simp only [Act.put, List.setIfInBounds_toArray, List.set_cons_zero, List.set_cons_succ]
  go_wp2_with fail
  refine Calls.mono (load_num x _) ?_
  rintro e w1 ⟨rfl, hg1⟩
  dsimp only
  go_step
  have hW1 := grown_trans hW hg1
  clear hE hW hg1
  go_wp2_with fail
  refine Calls.mono (halfPower_num x hx _ (rangeAt_grown hG hW1)) ?_
  rintro e w2 ⟨⟨z, rfl, hz, hzp⟩, hg2⟩
  have hzq := Hid.of hzp
  clear hzp
  dsimp only
  go_step
  have hW2 := grown_trans hW1 hg2
  clear hW1 hg2
  go_wp2_with fail
  refine Calls.mono (canonical_num z hz _) ?_
  rw [hzq.out]
  rintro e w3 ⟨rfl, hg3⟩
  dsimp only
  go_step
  have hW3 := grown_trans hW2 hg3
  clear hW2 hg3
  apply wpList_nil
  repeat ((fail_if_success (with_reducible show Code.wp _ (Code.region _ _ _) _ _ _)); go_step)
  apply wp_region_lit
  refine wpList_val (numV 0) rfl (by kernel_rfl) ?_
  simp only [Act.put, List.setIfInBounds_toArray, List.set_cons_zero, List.set_cons_succ]
  refine wpList_val (.bool false) rfl ((exec_eqlN rfl (hp x) 0 rfl rfl hb (by decide) _).trans (by rw [decide_eq_false h0.out])) ?_
  simp only [Act.put, List.setIfInBounds_toArray, List.set_cons_zero, List.set_cons_succ]
  refine wpList_val (.bool false) rfl rfl ?_
  simp only [Act.put, List.setIfInBounds_toArray, List.set_cons_zero, List.set_cons_succ]
  apply wpList_nil
  repeat ((fail_if_success (with_reducible show Code.wp _ (Code.region _ _ _) _ _ _)); go_step)
  apply wp_region_lit
  refine wpList_load_mid rfl 66 _ rfl 0 0 rfl (nl 1) _ (rangeAt_grown hO hW3) Tryd.underlying66 rfl (by rw [nl_length]; exact infoN) ?_
  rw [← numV_nl]
  simp only [Act.put, List.setIfInBounds_toArray, List.set_cons_zero, List.set_cons_succ]
  refine wpList_val (.bool false) rfl ((exec_eqlN rfl (hp x) 1 rfl rfl hb (by decide) _).trans (by rw [decide_eq_false h1.out])) ?_
  simp only [Act.put, List.setIfInBounds_toArray, List.set_cons_zero, List.set_cons_succ]
  refine wpList_val (.bool false) rfl rfl ?_
  simp only [Act.put, List.setIfInBounds_toArray, List.set_cons_zero, List.set_cons_succ]
  apply wpList_nil
  clear hG hO
  go_wp2
  go_ret
  refine ⟨?_, hW3⟩
  have hl : leg x = -1 := by unfold leg; rw [if_neg h0.out, if_neg h1.out]
  rw [hl]; rfl

set_option maxRecDepth 100000 in
theorem Legendre_any (x : Nat) (hx : x < M) (w : World) (hG : w.rangeAt 5 0 PW) (hO : w.rangeAt 0 0 (nl 1)) :
    Calls Tryd.prog 22 #[bv x] w fun e w' => e = .returned (.int .i64 (leg x)) ∧ Grown w w' := by
  by_cases h0 : hp x = 0
  · exact leg0 x hx h0 w hG
  · by_cases h1 : hp x = 1
    · exact leg1 x hx h0 h1 w hG hO
    · exact leg2 x hx h0 h1 w hG hO
end Go.Proofs.YtkegcilcapnpdaaDoor

namespace Go.Proofs.YtkegcilcapnpdaaDoor
open Go.RowKit Go.Shelf FieldNum

set_option maxRecDepth 100000 in
theorem nl_of_words {x : Nat} {x0 x1 x2 x3 : Int} (ex : numV x = numW x0 x1 x2 x3) : nl x = [.int .u64 x0, .int .u64 x1, .int .u64 x2, .int .u64 x3] := by
  rw [numV_nl] at ex
  injection ex with ex
  exact congrArg Array.toList ex

set_option maxRecDepth 100000 in
theorem box_num (w : World) (x : Nat) (x0 x1 x2 x3 : Int) (ex : numV x = numW x0 x1 x2 x3) :
    (w.alloc (Obj.cells #[Value.int IntKind.u64 x0, Value.int IntKind.u64 x1, Value.int IntKind.u64 x2, Value.int IntKind.u64 x3] 66)).rangeAt w.heap.size 0 (nl x) := by
  have h1 : (w.alloc (Obj.cells (nl x).toArray 66)).rangeAt w.heap.size 0 (nl x) := rangeAt_alloc_new w 66 (nl x)
  rw [nl_of_words ex] at h1 ⊢
  exact h1

set_option maxRecDepth 100000 in
theorem and_one (q : Nat) (hq : q < 18446744073709551616) : bits .and .u64 (q : Int) 1 = ((q % 2 : Nat) : Int) := by
  have := bits_and_u64_nat q 1 hq (by omega)
  have e : q &&& 1 = q % 2 := Nat.and_two_pow_sub_one_eq_mod q 1
  rw [e] at this
  exact this

set_option maxRecDepth 100000 in
set_option maxHeartbeats 1000000 in
theorem odd_num (x : Nat) (hx : x < M) (w : World) : Calls Tryd.prog 56 #[numV x] w fun e w' => e = .returned (.bool (decide (x % p % 2 = 1))) ∧ Grown w w' := by
  obtain ⟨x0, x1, x2, x3, ex, _, _, _, _, _⟩ := words_of_num x hx
  have hr := box_num w x x0 x1 x2 x3 ex
  have hg0 : Grown w (w.alloc (Obj.cells #[Value.int IntKind.u64 x0, Value.int IntKind.u64 x1, Value.int IntKind.u64 x2, Value.int IntKind.u64 x3] 66)) := by go_grown
  rw [ex]
  clear ex
  go_enter Tryd.func56, Tryd.ntmps56
  go_wp2_with (with_reducible show wpList _ _ _ ({ dst := _, op := Op.load 66 _, type := _, pos := _, after := _, guard := _ } :: _) _ _; refine Shut.out ?_)
  show wpList _ _ _ _ _ _
  generalize (w.alloc (Obj.cells #[Value.int IntKind.u64 x0, Value.int IntKind.u64 x1, Value.int IntKind.u64 x2, Value.int IntKind.u64 x3] 66)) = W0 at *
  refine wpList_load_mid rfl 66 _ rfl w.heap.size 0 rfl (nl x) _ hr Tryd.underlying66 rfl (by rw [nl_length]; exact infoN) ?_
  rw [← numV_nl]
  simp only [Act.put, List.setIfInBounds_toArray, List.set_cons_zero, List.set_cons_succ]
  clear hr
  go_wp2_with fail
  refine Calls.mono (canonical_num x hx _) ?_
  rintro e w1 ⟨rfl, hg1⟩
  dsimp only
  go_step
  have hW := grown_trans hg0 hg1
  clear hg0 hg1
  generalize hn : x % p = n at *
  have hnn := Hid.of hn
  clear hn
  refine wpList_val (.int .u64 ((n / 256 ^ 0 % 18446744073709551616 : Nat) : Int)) rfl (by kernel_rfl) ?_
  simp only [Act.put, List.setIfInBounds_toArray, List.set_cons_zero, List.set_cons_succ]
  have hq0 : n / 256 ^ 0 % 18446744073709551616 % 2 = n % 2 := by rw [Nat.pow_zero, Nat.div_one]; omega
  have hq1 : n / 256 ^ 0 % 18446744073709551616 < 18446744073709551616 := Nat.mod_lt _ (by decide)
  generalize n / 256 ^ 0 % 18446744073709551616 = q at *
  have hand := and_one q hq1
  have hqq := Hid.of hq0
  clear hq0
  refine wpList_val (.int .u64 ((q % 2 : Nat) : Int)) rfl (by
    unfold execOp
    simp [go_sem, hand]) ?_
  simp only [Act.put, List.setIfInBounds_toArray, List.set_cons_zero, List.set_cons_succ]
  clear hand
  generalize hr2 : q % 2 = r at *
  have hr3 := Hid.of hr2
  clear hr2
  go_wp2
  go_ret
  refine ⟨?_, hW⟩
  have h1 := hqq.out
  have h2 := hr3.out
  have h3 := hnn.out
  have e : decide (x % p % 2 = 1) = decide (r = 1) := decide_eq_decide.2 (by omega)
  rw [e]
  by_cases h : r = 1
  · subst h; rfl
  · have h4 : ((r : Int) == 1) = false := by simp; omega
    rw [decide_eq_false h]
    show Ending.returned (.bool ((r : Int) == 1)) = _
    rw [h4]

set_option maxRecDepth 100000 in
set_option maxHeartbeats 1000000 in
theorem equals_num (x y : Nat) (hx : x < M) (hy : y < M) (w : World) : Calls Tryd.prog 83 #[numV x, numV y] w fun e w' => e = .returned (.bool (decide (x % p = y % p))) ∧ Grown w w' := by
  obtain ⟨x0, x1, x2, x3, ex, _, _, _, _, _⟩ := words_of_num x hx
  obtain ⟨y0, y1, y2, y3, ey, _, _, _, _, _⟩ := words_of_num y hy
  have hS : ((w.alloc (Obj.cells #[Value.int IntKind.u64 x0, Value.int IntKind.u64 x1, Value.int IntKind.u64 x2, Value.int IntKind.u64 x3] 66)).alloc (Obj.cells #[Value.int IntKind.u64 y0, Value.int IntKind.u64 y1, Value.int IntKind.u64 y2, Value.int IntKind.u64 y3] 66)).drew.rangeAt w.heap.size 0 (nl x) ∧
      ((w.alloc (Obj.cells #[Value.int IntKind.u64 x0, Value.int IntKind.u64 x1, Value.int IntKind.u64 x2, Value.int IntKind.u64 x3] 66)).alloc (Obj.cells #[Value.int IntKind.u64 y0, Value.int IntKind.u64 y1, Value.int IntKind.u64 y2, Value.int IntKind.u64 y3] 66)).drew.rangeAt (w.heap.size + 1) 0 (nl y) ∧
      Grown w ((w.alloc (Obj.cells #[Value.int IntKind.u64 x0, Value.int IntKind.u64 x1, Value.int IntKind.u64 x2, Value.int IntKind.u64 x3] 66)).alloc (Obj.cells #[Value.int IntKind.u64 y0, Value.int IntKind.u64 y1, Value.int IntKind.u64 y2, Value.int IntKind.u64 y3] 66)).drew := by
    have h2 := box_num (w.alloc (Obj.cells #[Value.int IntKind.u64 x0, Value.int IntKind.u64 x1, Value.int IntKind.u64 x2, Value.int IntKind.u64 x3] 66)) y y0 y1 y2 y3 ey
    rw [show (w.alloc (Obj.cells #[Value.int IntKind.u64 x0, Value.int IntKind.u64 x1, Value.int IntKind.u64 x2, Value.int IntKind.u64 x3] 66)).heap.size = w.heap.size + 1 by simp] at h2
    exact ⟨rangeAt_grown (box_num w x x0 x1 x2 x3 ex) (by go_grown), h2, by go_grown⟩
  rw [ex, ey]
  clear ex ey
  go_enter Tryd.func83, Tryd.ntmps83
  go_wp2
  refine wp_region_noPanic ?_
  refine wp_region_held_drew (S := fun w' => w'.rangeAt w.heap.size 0 (nl x) ∧ w'.rangeAt (w.heap.size + 1) 0 (nl y) ∧ Grown w w') (by kernel_rfl) hS (fun hH0 => ?_)
  clear hS
  refine takeN 0 x w.heap.size 0 rfl (by kernel_rfl) (by kernel_rfl) (by kernel_rfl) (fun _ _ _ h => h) (by rfl) rfl rfl (fun _ h => h.1) hH0 ?_
  simp only [Act.put, List.setIfInBounds_toArray, List.set_cons_zero, List.set_cons_succ]
  refine takeN 2 y (w.heap.size + 1) 0 rfl (by kernel_rfl) (by kernel_rfl) (by kernel_rfl) (fun _ _ _ h => h) (by rfl) rfl rfl (fun _ h => h.2.1) hH0 ?_
  simp only [Act.put, List.setIfInBounds_toArray, List.set_cons_zero, List.set_cons_succ]
  refine step1 1 (by kernel_rfl) rfl (fun K hK => ?_)
  rw [if_pos (by rfl)]
  go_simp
  refine Calls.mono (canonical_num x hx _) ?_
  rintro e w1 ⟨rfl, hg1⟩
  dsimp only
  refine hK.out _ _ ⟨rangeAt_grown hH0.1 hg1, rangeAt_grown hH0.2.1 hg1, grown_trans hH0.2.2 hg1⟩ (fun hH1 => ?_)
  clear hK K hH0 hg1
  refine step1 3 (by kernel_rfl) rfl (fun K hK => ?_)
  rw [if_pos (by rfl)]
  go_simp
  refine Calls.mono (canonical_num y hy _) ?_
  rintro e w2 ⟨rfl, hg2⟩
  dsimp only
  refine hK.out _ _ ⟨rangeAt_grown hH1.1 hg2, rangeAt_grown hH1.2.1 hg2, grown_trans hH1.2.2 hg2⟩ (fun hH2 => ?_)
  clear hK K hH1 hg2
  refine takeV 4 (.bool (decide (x % p = y % p))) rfl (by kernel_rfl) (by kernel_rfl) (by kernel_rfl) (fun _ _ _ h => h) (by rfl) (fun w _ => exec_eqlN rfl (x % p) (y % p) rfl rfl (mod_lt256 _) (mod_lt256 _) w) hH2 ?_
  simp only [Act.put, List.setIfInBounds_toArray, List.set_cons_zero, List.set_cons_succ]
  refine takeV 5 (.bool (decide (x % p = y % p))) rfl (by kernel_rfl) (by kernel_rfl) (by kernel_rfl) (fun _ _ _ h => h) (by rfl) (fun w _ => rfl) hH2 ?_
  simp only [Act.put, List.setIfInBounds_toArray, List.set_cons_zero, List.set_cons_succ]
  refine wpAnyH_done (by kernel_rfl) ?_ _
  refine NoPanic.normal ?_
  repeat go_step
  go_ret
  exact ⟨rfl, hH2.2.2⟩
end Go.Proofs.YtkegcilcapnpdaaDoor

namespace Go.Proofs.YtkegcilcapnpdaaDoor
open Go.RowKit Go.Shelf FieldNum

set_option maxRecDepth 100000 in
set_option maxHeartbeats 1000000 in
theorem Odd_any (x : Nat) (hx : x < M) (w : World) : Calls Tryd.prog 49 #[bv x] w fun e w' => e = .returned (.bool (decide (x % p % 2 = 1))) ∧ Grown w w' := by
  rw [bv]
  go_enter Tryd.func49, Tryd.ntmps49
  go_wp2_with (with_reducible show wpList _ _ _ ({ dst := _, op := Op.load 23 _, type := _, pos := _, after := _, guard := _ } :: _) _ _; refine Shut.out ?_)
  show wpList _ _ _ _ _ _
  obtain ⟨hE, hW⟩ := params1 w x
  generalize (w.alloc (Obj.cells (bl x).toArray 23)) = W0 at hE hW ⊢
  refine wpList_load32 rfl _ rfl _ rfl x (hE _ (.head _)) ?_
  simp only [Act.put, List.setIfInBounds_toArray, List.set_cons_zero, List.set_cons_succ]
  go_wp2_with fail
  refine Calls.mono (load_num x _) ?_
  rintro e w1 ⟨rfl, hg1⟩
  dsimp only
  go_step
  have hW1 := grown_trans hW hg1
  clear hE hW hg1
  go_wp2_with fail
  refine Calls.mono (odd_num x hx _) ?_
  rintro e w2 ⟨rfl, hg2⟩
  dsimp only
  go_step
  have hW2 := grown_trans hW1 hg2
  clear hW1 hg2
  refine wpList_val (.bool (decide (x % p % 2 = 1))) rfl rfl ?_
  simp only [Act.put, List.setIfInBounds_toArray, List.set_cons_zero, List.set_cons_succ]
  apply wpList_nil
  repeat go_step
  go_ret
  exact ⟨rfl, hW2⟩

theorem wpList_store_newN {ops : Array Oper} {Q : Exit → Act → World → Prop} {a : Act} {w : World} {rest : List Oper} {o : Oper} {x y : Operand} {c : Array Value} (n : Nat) (hc : 4 ≤ c.size) (hgd : o.guard = none) (ho : o.op = .store 66 x y)
    (hx : a.eval x = .pointer (some ⟨w.heap.size, 0, none⟩)) (hy : a.eval y = numV n)
    (h : ∀ w2, Grown w w2 → w2.rangeAt w.heap.size 0 (nl n) → wpList Tryd.prog ops Q rest (a.put o.dst undef) w2) :
    wpList Tryd.prog ops Q (o :: rest) a (w.alloc (.cells c 66)) := by
  have ht := there_alloc_new w 66 c 4 hc
  refine wpList_store_mid hgd 66 x y ho w.heap.size 0 (nl n).toArray hx hy (by rw [show (nl n).toArray.size = 4 from by rw [List.size_toArray, nl_length]]; exact ht) (by rw [List.size_toArray, nl_length]; exact infoN) (all_oneCell_toArray (nl_one n)) ?_
  exact h _ (grown_setCells (Nat.le_refl _) _ _ (Grown.alloc (Grown.refl _) _ _)) (World.rangeAt_setCells_same _ _ _ (nl n) (by rw [nl_length]; exact ht))

set_option maxRecDepth 100000 in
set_option maxHeartbeats 1000000 in
theorem Canonical_any (x : Nat) (hx : x < M) (w : World) : Calls Tryd.prog 20 #[bv x] w fun e w' => e = .returned (.bool (decide (x < p))) ∧ Grown w w' := by
  have hdec : decide (x < p) = decide (x = x % p) := decide_eq_decide.2 ⟨fun h => (Nat.mod_eq_of_lt h).symm, fun h => by rw [h]; exact Nat.mod_lt _ p_pos⟩
  rw [hdec]
  clear hdec
  rw [bv]
  go_enter Tryd.func20, Tryd.ntmps20
  go_wp2_with (with_reducible show wpList _ _ _ ({ dst := _, op := Op.load 23 _, type := _, pos := _, after := _, guard := _ } :: _) _ _; refine Shut.out ?_)
  show wpList _ _ _ _ _ _
  obtain ⟨hE, hW⟩ := params1 w x
  generalize (w.alloc (Obj.cells (bl x).toArray 23)) = W0 at hE hW ⊢
  refine wpList_load32 rfl _ rfl _ rfl x (hE _ (.head _)) ?_
  simp only [Act.put, List.setIfInBounds_toArray, List.set_cons_zero, List.set_cons_succ]
  go_wp2_with fail
  refine Calls.mono (load_num x _) ?_
  rintro e w1 ⟨rfl, hg1⟩
  dsimp only
  go_step
  have hW1 := grown_trans hW hg1
  clear hE hW hg1
  go_wp2_with (with_reducible show wpList _ _ _ ({ dst := _, op := Op.store 66 _ _, type := _, pos := _, after := _, guard := _ } :: _) _ _; refine Shut.out ?_)
  show wpList _ _ _ _ _ _
  refine wpList_store_newN x (by simp) rfl rfl rfl rfl (fun w2 hg2 hr2 => ?_)
  simp only [Act.put]
  have hW2 := grown_trans hW1 hg2
  clear hW1 hg2
  apply wpList_nil
  repeat ((fail_if_success (with_reducible show Code.wp _ (Code.region _ _ _) _ _ _)); go_step)
  refine wp_region_noPanic ?_
  refine wp_region_held_drew (S := fun w' => w'.rangeAt w1.heap.size 0 (nl x) ∧ Grown w w') (by kernel_rfl) ⟨hr2, hW2⟩ (fun hH0 => ?_)
  clear hr2 hW2
  refine takeN 0 x w1.heap.size 0 rfl (by kernel_rfl) (by kernel_rfl) (by kernel_rfl) (fun _ _ _ h => h) (by rfl) rfl rfl (fun _ h => h.1) hH0 ?_
  simp only [Act.put, List.setIfInBounds_toArray, List.set_cons_zero, List.set_cons_succ]
  refine takeN 1 x w1.heap.size 0 rfl (by kernel_rfl) (by kernel_rfl) (by kernel_rfl) (fun _ _ _ h => h) (by rfl) rfl rfl (fun _ h => h.1) hH0 ?_
  simp only [Act.put, List.setIfInBounds_toArray, List.set_cons_zero, List.set_cons_succ]
  refine step1 2 (by kernel_rfl) rfl (fun K hK => ?_)
  rw [if_pos (by rfl)]
  go_simp
  refine Calls.mono (canonical_num x hx _) ?_
  rintro e w3 ⟨rfl, hg3⟩
  dsimp only
  refine hK.out _ _ ⟨rangeAt_grown hH0.1 hg3, grown_trans hH0.2 hg3⟩ (fun hH1 => ?_)
  clear hK K hH0 hg3
  refine takeV 3 (.bool (decide (x = x % p))) rfl (by kernel_rfl) (by kernel_rfl) (by kernel_rfl) (fun _ _ _ h => h) (by rfl) (fun w _ => exec_eqlN rfl x (x % p) rfl rfl hx (mod_lt256 _) w) hH1 ?_
  simp only [Act.put, List.setIfInBounds_toArray, List.set_cons_zero, List.set_cons_succ]
  refine takeV 4 (.bool (decide (x = x % p))) rfl (by kernel_rfl) (by kernel_rfl) (by kernel_rfl) (fun _ _ _ h => h) (by rfl) (fun w _ => rfl) hH1 ?_
  simp only [Act.put, List.setIfInBounds_toArray, List.set_cons_zero, List.set_cons_succ]
  refine wpAnyH_done (by kernel_rfl) ?_ _
  refine NoPanic.normal ?_
  repeat go_step
  go_ret
  exact ⟨rfl, hH1.2⟩
end Go.Proofs.YtkegcilcapnpdaaDoor

namespace Go.Proofs.YtkegcilcapnpdaaDoor
open Go.RowKit Go.Shelf FieldNum

set_option maxRecDepth 100000 in
theorem less_is (x y : Nat) (hx : x < M) (hy : y < M) (b : Bool) (h : decide (x < y) = b) (w : World) : Calls Tryd.prog 16 #[bv x, bv y] w fun e w' => e = .returned (.bool b) ∧ Grown w w' := by
  have := less_any x y hx hy w
  rwa [h] at this
set_option maxRecDepth 100000 in
theorem canon_is (x : Nat) (hx : x < M) (b : Bool) (h : decide (x < p) = b) (w : World) : Calls Tryd.prog 20 #[bv x] w fun e w' => e = .returned (.bool b) ∧ Grown w w' := by
  have := Canonical_any x hx w
  rwa [h] at this
set_option maxRecDepth 100000 in
theorem odd_is (x : Nat) (hx : x < M) (b : Bool) (h : decide (x % p % 2 = 1) = b) (w : World) : Calls Tryd.prog 49 #[bv x] w fun e w' => e = .returned (.bool b) ∧ Grown w w' := by
  have := Odd_any x hx w
  rwa [h] at this
set_option maxRecDepth 100000 in
theorem wpList_skipU {ops : Array Oper} {Q : Exit → Act → World → Prop} {rest : List Oper} {o : Oper} {a : Act} {w : World} (hw : Region.wanted o (yielded ops a.tmps) = false)
    (h : wpList Tryd.prog ops Q rest (a.put o.dst undef) w) : wpList Tryd.prog ops Q (o :: rest) a w :=
  wpList_step fun _ hK => by
    rw [if_neg (by rw [hw]; decide)]
    exact hK _ _ h

set_option maxRecDepth 100000 in
theorem wpList_valG {ops : Array Oper} {Q : Exit → Act → World → Prop} {rest : List Oper} {o : Oper} {a : Act} {w : World} (v : Value) (hw : Region.wanted o (yielded ops a.tmps) = true) (hy : (execOp a.eval o).run Tryd.prog w = .ok (.value v) w)
    (h : wpList Tryd.prog ops Q rest (a.put o.dst v) w) : wpList Tryd.prog ops Q (o :: rest) a w :=
  wpList_step fun _ hK => by
    rw [if_pos hw]
    unfold Oper.wp
    rw [hy]
    exact hK _ _ h

set_option maxRecDepth 100000 in
theorem wpList_load32G {ops : Array Oper} {rest : List Oper} {op : Oper} {a : Act} {w : World} {Q : Exit → Act → World → Prop} (hw : Region.wanted op (yielded ops a.tmps) = true) (x : Operand) (ho : op.op = .load 23 x)
    (b : Nat) (hx : a.eval x = .pointer (some ⟨b, 0, none⟩)) (n : Nat) (hc : w.rangeAt b 0 (bl n))
    (h : wpList Tryd.prog ops Q rest (a.put op.dst (bv n)) w) : wpList Tryd.prog ops Q (op :: rest) a w :=
  wpList_step fun _ hK => by
    rw [if_pos hw]
    exact wp_load_mid 23 x ho b 0 hx (bl n) _ hc Tryd.underlying23 rfl (by rw [bl_length]; exact info32) (hK _ _ h)

set_option maxRecDepth 100000 in
theorem exec_rem8 {o : Oper} {ρ : Operand → Value} {x y : Operand} {t : TypeId} {w : World} (ho : o.op = .binOp .rem 5 x y t) (c : Nat) (hc : c < 256) (hx : ρ x = .int .u8 (c : Int)) (hy : ρ y = .int .u8 2) : (execOp ρ o).run Tryd.prog w = .ok (.value (.int .u8 ((c % 2 : Nat) : Int))) w := by
  have h : (c : Int).tmod 2 = ((c % 2 : Nat) : Int) := by rw [Int.tmod_eq_emod_of_nonneg (by omega)]; omega
  have hw : IntKind.u8.wrap ((c % 2 : Nat) : Int) = ((c % 2 : Nat) : Int) := by rw [IntKind.wrap_u8]; omega
  unfold execOp
  simp only [ho, hx, hy]
  simp [go_sem, h]
set_option maxRecDepth 100000 in
theorem exec_eql8 {o : Oper} {ρ : Operand → Value} {x y : Operand} {t : TypeId} {w : World} (ho : o.op = .binOp .eql 5 x y t) (c : Nat) (hx : ρ x = .int .u8 (c : Int)) (hy : ρ y = .int .u8 1) (b : Bool) (hb : decide (c = 1) = b) : (execOp ρ o).run Tryd.prog w = .ok (.value (.bool b)) w := by
  subst hb
  unfold execOp
  simp only [ho, hx, hy]
  simp [go_sem]
  by_cases h : c = 1
  · subst h; rfl
  · have : ((c : Int) == 1) = false := by simp; omega
    rw [this]; simp [h]
end Go.Proofs.YtkegcilcapnpdaaDoor
