import Derived.Test.YtoonlnncboikfaaLP
import Derived.Test.YtoonlnncboikfaaEng3
namespace Go.Proofs.Ytoonlnncboikfaa
open Go.RowKit Go.Shelf FieldNum

theorem nl_of_words {x : Nat} {x0 x1 x2 x3 : Int} (ex : numV x = numW x0 x1 x2 x3) : nl x = [.int .u64 x0, .int .u64 x1, .int .u64 x2, .int .u64 x3] := by
  rw [numV_nl] at ex
  injection ex with ex
  exact congrArg Array.toList ex

theorem box_num (w : World) (x : Nat) (x0 x1 x2 x3 : Int) (ex : numV x = numW x0 x1 x2 x3) :
    (w.alloc (Obj.cells #[Value.int IntKind.u64 x0, Value.int IntKind.u64 x1, Value.int IntKind.u64 x2, Value.int IntKind.u64 x3] 34)).rangeAt w.heap.size 0 (nl x) := by
  have h1 : (w.alloc (Obj.cells (nl x).toArray 34)).rangeAt w.heap.size 0 (nl x) := rangeAt_alloc_new w 34 (nl x)
  rw [nl_of_words ex] at h1 ⊢
  exact h1

theorem and_one (q : Nat) (hq : q < 18446744073709551616) : bits .and .u64 (q : Int) 1 = ((q % 2 : Nat) : Int) := by
  have := bits_and_u64_nat q 1 hq (by omega)
  have e : q &&& 1 = q % 2 := Nat.and_two_pow_sub_one_eq_mod q 1
  rw [e] at this
  exact this

set_option maxRecDepth 100000 in
set_option maxHeartbeats 1000000 in
theorem odd_num (x : Nat) (hx : x < M) (w : World) : Calls Try.prog 24 #[numV x] w fun e w' => e = .returned (.bool (decide (x % p % 2 = 1))) ∧ Grown w w' := by
  obtain ⟨x0, x1, x2, x3, ex, _, _, _, _, _⟩ := words_of_num x hx
  have hr := box_num w x x0 x1 x2 x3 ex
  have hg0 : Grown w (w.alloc (Obj.cells #[Value.int IntKind.u64 x0, Value.int IntKind.u64 x1, Value.int IntKind.u64 x2, Value.int IntKind.u64 x3] 34)) := by go_grown
  rw [ex]
  clear ex
  go_enter Try.func24, Try.ntmps24
  go_wp2_with (with_reducible show wpList _ _ _ ({ dst := _, op := Op.load 34 _, type := _, pos := _, after := _, guard := _ } :: _) _ _; refine Shut.out ?_)
  show wpList _ _ _ _ _ _
  generalize (w.alloc (Obj.cells #[Value.int IntKind.u64 x0, Value.int IntKind.u64 x1, Value.int IntKind.u64 x2, Value.int IntKind.u64 x3] 34)) = W0 at *
  refine wpList_load_mid rfl 34 _ rfl w.heap.size 0 rfl (nl x) _ hr Try.underlying34 rfl (by rw [nl_length]; exact infoN) ?_
  rw [← numV_nl]
  simp only [Act.put, List.setIfInBounds_toArray, List.set_cons_zero, List.set_cons_succ]
  clear hr
  go_wp2_with fail
  refine Calls.mono (canonical_num x hx _) ?_
  rintro e w1 ⟨rfl, hg1⟩
  dsimp only
  go_step
  have hW := grown_trans hg0 hg1
  clear hg0 hg1
  generalize hn : x % p = n at *
  have hnn := Hid.of hn
  clear hn
  refine wpList_val (.int .u64 ((n / 256 ^ 0 % 18446744073709551616 : Nat) : Int)) rfl (by kernel_rfl) ?_
  simp only [Act.put, List.setIfInBounds_toArray, List.set_cons_zero, List.set_cons_succ]
  have hq0 : n / 256 ^ 0 % 18446744073709551616 % 2 = n % 2 := by rw [Nat.pow_zero, Nat.div_one]; omega
  have hq1 : n / 256 ^ 0 % 18446744073709551616 < 18446744073709551616 := Nat.mod_lt _ (by decide)
  generalize n / 256 ^ 0 % 18446744073709551616 = q at *
  have hand := and_one q hq1
  have hqq := Hid.of hq0
  clear hq0
  refine wpList_val (.int .u64 ((q % 2 : Nat) : Int)) rfl (by
    unfold execOp
    simp [go_sem, hand]) ?_
  simp only [Act.put, List.setIfInBounds_toArray, List.set_cons_zero, List.set_cons_succ]
  clear hand
  generalize hr2 : q % 2 = r at *
  have hr3 := Hid.of hr2
  clear hr2
  go_wp2
  go_ret
  refine ⟨?_, hW⟩
  have h1 := hqq.out
  have h2 := hr3.out
  have h3 := hnn.out
  have e : decide (x % p % 2 = 1) = decide (r = 1) := decide_eq_decide.2 (by omega)
  rw [e]
  by_cases h : r = 1
  · subst h; rfl
  · have h4 : ((r : Int) == 1) = false := by simp; omega
    rw [decide_eq_false h]
    show Ending.returned (.bool ((r : Int) == 1)) = _
    rw [h4]

set_option maxRecDepth 100000 in
set_option maxHeartbeats 1000000 in
theorem equals_num (x y : Nat) (hx : x < M) (hy : y < M) (w : World) : Calls Try.prog 25 #[numV x, numV y] w fun e w' => e = .returned (.bool (decide (x % p = y % p))) ∧ Grown w w' := by
  obtain ⟨x0, x1, x2, x3, ex, _, _, _, _, _⟩ := words_of_num x hx
  obtain ⟨y0, y1, y2, y3, ey, _, _, _, _, _⟩ := words_of_num y hy
  have hS : ((w.alloc (Obj.cells #[Value.int IntKind.u64 x0, Value.int IntKind.u64 x1, Value.int IntKind.u64 x2, Value.int IntKind.u64 x3] 34)).alloc (Obj.cells #[Value.int IntKind.u64 y0, Value.int IntKind.u64 y1, Value.int IntKind.u64 y2, Value.int IntKind.u64 y3] 34)).drew.rangeAt w.heap.size 0 (nl x) ∧
      ((w.alloc (Obj.cells #[Value.int IntKind.u64 x0, Value.int IntKind.u64 x1, Value.int IntKind.u64 x2, Value.int IntKind.u64 x3] 34)).alloc (Obj.cells #[Value.int IntKind.u64 y0, Value.int IntKind.u64 y1, Value.int IntKind.u64 y2, Value.int IntKind.u64 y3] 34)).drew.rangeAt (w.heap.size + 1) 0 (nl y) ∧
      Grown w ((w.alloc (Obj.cells #[Value.int IntKind.u64 x0, Value.int IntKind.u64 x1, Value.int IntKind.u64 x2, Value.int IntKind.u64 x3] 34)).alloc (Obj.cells #[Value.int IntKind.u64 y0, Value.int IntKind.u64 y1, Value.int IntKind.u64 y2, Value.int IntKind.u64 y3] 34)).drew := by
    have h2 := box_num (w.alloc (Obj.cells #[Value.int IntKind.u64 x0, Value.int IntKind.u64 x1, Value.int IntKind.u64 x2, Value.int IntKind.u64 x3] 34)) y y0 y1 y2 y3 ey
    rw [show (w.alloc (Obj.cells #[Value.int IntKind.u64 x0, Value.int IntKind.u64 x1, Value.int IntKind.u64 x2, Value.int IntKind.u64 x3] 34)).heap.size = w.heap.size + 1 by simp] at h2
    exact ⟨rangeAt_grown (box_num w x x0 x1 x2 x3 ex) (by go_grown), h2, by go_grown⟩
  rw [ex, ey]
  clear ex ey
  go_enter Try.func25, Try.ntmps25
  go_wp2
  refine wp_region_noPanic ?_
  refine wp_region_held_drew (S := fun w' => w'.rangeAt w.heap.size 0 (nl x) ∧ w'.rangeAt (w.heap.size + 1) 0 (nl y) ∧ Grown w w') (by kernel_rfl) hS (fun hH0 => ?_)
  clear hS
  refine takeN 0 x w.heap.size 0 rfl (by kernel_rfl) (by kernel_rfl) (by kernel_rfl) (fun _ _ _ h => h) (by rfl) rfl rfl (fun _ h => h.1) hH0 ?_
  simp only [Act.put, List.setIfInBounds_toArray, List.set_cons_zero, List.set_cons_succ]
  refine takeN 2 y (w.heap.size + 1) 0 rfl (by kernel_rfl) (by kernel_rfl) (by kernel_rfl) (fun _ _ _ h => h) (by rfl) rfl rfl (fun _ h => h.2.1) hH0 ?_
  simp only [Act.put, List.setIfInBounds_toArray, List.set_cons_zero, List.set_cons_succ]
  refine step1 1 (by kernel_rfl) rfl (fun K hK => ?_)
  rw [if_pos (by rfl)]
  go_simp
  refine Calls.mono (canonical_num x hx _) ?_
  rintro e w1 ⟨rfl, hg1⟩
  dsimp only
  refine hK.out _ _ ⟨rangeAt_grown hH0.1 hg1, rangeAt_grown hH0.2.1 hg1, grown_trans hH0.2.2 hg1⟩ (fun hH1 => ?_)
  clear hK K hH0 hg1
  refine step1 3 (by kernel_rfl) rfl (fun K hK => ?_)
  rw [if_pos (by rfl)]
  go_simp
  refine Calls.mono (canonical_num y hy _) ?_
  rintro e w2 ⟨rfl, hg2⟩
  dsimp only
  refine hK.out _ _ ⟨rangeAt_grown hH1.1 hg2, rangeAt_grown hH1.2.1 hg2, grown_trans hH1.2.2 hg2⟩ (fun hH2 => ?_)
  clear hK K hH1 hg2
  refine takeV 4 (.bool (decide (x % p = y % p))) rfl (by kernel_rfl) (by kernel_rfl) (by kernel_rfl) (fun _ _ _ h => h) (by rfl) (fun w _ => exec_eqlN rfl (x % p) (y % p) rfl rfl (mod_lt256 _) (mod_lt256 _) w) hH2 ?_
  simp only [Act.put, List.setIfInBounds_toArray, List.set_cons_zero, List.set_cons_succ]
  refine takeV 5 (.bool (decide (x % p = y % p))) rfl (by kernel_rfl) (by kernel_rfl) (by kernel_rfl) (fun _ _ _ h => h) (by rfl) (fun w _ => rfl) hH2 ?_
  simp only [Act.put, List.setIfInBounds_toArray, List.set_cons_zero, List.set_cons_succ]
  refine wpAnyH_done (by kernel_rfl) ?_ _
  refine NoPanic.normal ?_
  repeat go_step
  go_ret
  exact ⟨rfl, hH2.2.2⟩
end Go.Proofs.Ytoonlnncboikfaa
