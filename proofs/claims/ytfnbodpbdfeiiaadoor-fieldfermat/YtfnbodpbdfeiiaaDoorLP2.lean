import Derived.Test.YtfnbodpbdfeiiaaDoorLP
namespace Go.Proofs.YtfnbodpbdfeiiaaDoor
open Go.RowKit Go.Shelf FieldNum

theorem resultN {fn : Func} {q : Tmp} (h : fn.results = #[.cell q 38]) (tmps : Array Value) (w : World) (b n : Nat)
    (hp : tmps.getD q undef = .pointer (some ⟨b, 0, none⟩)) (hc : w.rangeAt b 0 (nl n)) : (results fn tmps).run Tryd.prog w = .ok (numV n) w := by
  have hp' : tmps[q]?.getD undef = .pointer (some ⟨b, 0, none⟩) := by simpa using hp
  simp [results, h, hp', asAddr, run_loadVar_mid w b 0 38 (nl n) _ hc Tryd.underlying38 rfl (by rw [nl_length]; exact infoN), numV_nl]

theorem infoT : (Tryd.prog.info? 60).map (·.size) = some 20 := by kernel_rfl

set_option maxRecDepth 100000 in
set_option maxHeartbeats 4000000 in
theorem longPower_num (x : Nat) (hx : x < M) (w : World) (hG : w.rangeAt 2 0 PW) :
    Calls Tryd.prog 40 #[numV x] w fun e w' => (∃ z, e = .returned (numV z) ∧ z < M ∧ z % p = x ^ (EX.getD 10 0) % p) ∧ Grown w w' := by
  obtain ⟨x0, x1, x2, x3, ex, _, _, _, _, _⟩ := words_of_num x hx
  have enl : nl x = [.int .u64 x0, .int .u64 x1, .int .u64 x2, .int .u64 x3] := by
    rw [numV_nl] at ex
    injection ex with ex
    exact congrArg Array.toList ex
  have hL0 : LP w (w.heap.size + 1 + 1) (w.heap.size + 1) [x] (((w.alloc (Obj.cells #[Value.int IntKind.u64 x0, Value.int IntKind.u64 x1, Value.int IntKind.u64 x2, Value.int IntKind.u64 x3] 38)).alloc (Obj.cells #[Value.int IntKind.u64 0, Value.int IntKind.u64 0, Value.int IntKind.u64 0, Value.int IntKind.u64 0] 38)).alloc (Obj.cells #[Value.int IntKind.u64 x0, Value.int IntKind.u64 x1, Value.int IntKind.u64 x2, Value.int IntKind.u64 x3, Value.int IntKind.u64 0, Value.int IntKind.u64 0, Value.int IntKind.u64 0, Value.int IntKind.u64 0, Value.int IntKind.u64 0, Value.int IntKind.u64 0, Value.int IntKind.u64 0, Value.int IntKind.u64 0, Value.int IntKind.u64 0, Value.int IntKind.u64 0, Value.int IntKind.u64 0, Value.int IntKind.u64 0, Value.int IntKind.u64 0, Value.int IntKind.u64 0, Value.int IntKind.u64 0, Value.int IntKind.u64 0, Value.int IntKind.u64 0, Value.int IntKind.u64 0, Value.int IntKind.u64 0, Value.int IntKind.u64 0, Value.int IntKind.u64 0, Value.int IntKind.u64 0, Value.int IntKind.u64 0, Value.int IntKind.u64 0, Value.int IntKind.u64 0, Value.int IntKind.u64 0, Value.int IntKind.u64 0, Value.int IntKind.u64 0, Value.int IntKind.u64 0, Value.int IntKind.u64 0, Value.int IntKind.u64 0, Value.int IntKind.u64 0, Value.int IntKind.u64 0, Value.int IntKind.u64 0, Value.int IntKind.u64 0, Value.int IntKind.u64 0, Value.int IntKind.u64 0, Value.int IntKind.u64 0, Value.int IntKind.u64 0, Value.int IntKind.u64 0] 58)) := by
    have e2 : (((w.alloc (Obj.cells #[Value.int IntKind.u64 x0, Value.int IntKind.u64 x1, Value.int IntKind.u64 x2, Value.int IntKind.u64 x3] 38)).alloc (Obj.cells #[Value.int IntKind.u64 0, Value.int IntKind.u64 0, Value.int IntKind.u64 0, Value.int IntKind.u64 0] 38)).alloc (Obj.cells #[Value.int IntKind.u64 x0, Value.int IntKind.u64 x1, Value.int IntKind.u64 x2, Value.int IntKind.u64 x3, Value.int IntKind.u64 0, Value.int IntKind.u64 0, Value.int IntKind.u64 0, Value.int IntKind.u64 0, Value.int IntKind.u64 0, Value.int IntKind.u64 0, Value.int IntKind.u64 0, Value.int IntKind.u64 0, Value.int IntKind.u64 0, Value.int IntKind.u64 0, Value.int IntKind.u64 0, Value.int IntKind.u64 0, Value.int IntKind.u64 0, Value.int IntKind.u64 0, Value.int IntKind.u64 0, Value.int IntKind.u64 0, Value.int IntKind.u64 0, Value.int IntKind.u64 0, Value.int IntKind.u64 0, Value.int IntKind.u64 0, Value.int IntKind.u64 0, Value.int IntKind.u64 0, Value.int IntKind.u64 0, Value.int IntKind.u64 0, Value.int IntKind.u64 0, Value.int IntKind.u64 0, Value.int IntKind.u64 0, Value.int IntKind.u64 0, Value.int IntKind.u64 0, Value.int IntKind.u64 0, Value.int IntKind.u64 0, Value.int IntKind.u64 0, Value.int IntKind.u64 0, Value.int IntKind.u64 0, Value.int IntKind.u64 0, Value.int IntKind.u64 0, Value.int IntKind.u64 0, Value.int IntKind.u64 0, Value.int IntKind.u64 0, Value.int IntKind.u64 0] 58)).heap[w.heap.size + 1 + 1]? = some (Obj.cells #[Value.int IntKind.u64 x0, Value.int IntKind.u64 x1, Value.int IntKind.u64 x2, Value.int IntKind.u64 x3, Value.int IntKind.u64 0, Value.int IntKind.u64 0, Value.int IntKind.u64 0, Value.int IntKind.u64 0, Value.int IntKind.u64 0, Value.int IntKind.u64 0, Value.int IntKind.u64 0, Value.int IntKind.u64 0, Value.int IntKind.u64 0, Value.int IntKind.u64 0, Value.int IntKind.u64 0, Value.int IntKind.u64 0, Value.int IntKind.u64 0, Value.int IntKind.u64 0, Value.int IntKind.u64 0, Value.int IntKind.u64 0, Value.int IntKind.u64 0, Value.int IntKind.u64 0, Value.int IntKind.u64 0, Value.int IntKind.u64 0, Value.int IntKind.u64 0, Value.int IntKind.u64 0, Value.int IntKind.u64 0, Value.int IntKind.u64 0, Value.int IntKind.u64 0, Value.int IntKind.u64 0, Value.int IntKind.u64 0, Value.int IntKind.u64 0, Value.int IntKind.u64 0, Value.int IntKind.u64 0, Value.int IntKind.u64 0, Value.int IntKind.u64 0, Value.int IntKind.u64 0, Value.int IntKind.u64 0, Value.int IntKind.u64 0, Value.int IntKind.u64 0, Value.int IntKind.u64 0, Value.int IntKind.u64 0, Value.int IntKind.u64 0, Value.int IntKind.u64 0] 58) := by
      have := heap_alloc_new ((w.alloc (Obj.cells #[Value.int IntKind.u64 x0, Value.int IntKind.u64 x1, Value.int IntKind.u64 x2, Value.int IntKind.u64 x3] 38)).alloc (Obj.cells #[Value.int IntKind.u64 0, Value.int IntKind.u64 0, Value.int IntKind.u64 0, Value.int IntKind.u64 0] 38)) (Obj.cells #[Value.int IntKind.u64 x0, Value.int IntKind.u64 x1, Value.int IntKind.u64 x2, Value.int IntKind.u64 x3, Value.int IntKind.u64 0, Value.int IntKind.u64 0, Value.int IntKind.u64 0, Value.int IntKind.u64 0, Value.int IntKind.u64 0, Value.int IntKind.u64 0, Value.int IntKind.u64 0, Value.int IntKind.u64 0, Value.int IntKind.u64 0, Value.int IntKind.u64 0, Value.int IntKind.u64 0, Value.int IntKind.u64 0, Value.int IntKind.u64 0, Value.int IntKind.u64 0, Value.int IntKind.u64 0, Value.int IntKind.u64 0, Value.int IntKind.u64 0, Value.int IntKind.u64 0, Value.int IntKind.u64 0, Value.int IntKind.u64 0, Value.int IntKind.u64 0, Value.int IntKind.u64 0, Value.int IntKind.u64 0, Value.int IntKind.u64 0, Value.int IntKind.u64 0, Value.int IntKind.u64 0, Value.int IntKind.u64 0, Value.int IntKind.u64 0, Value.int IntKind.u64 0, Value.int IntKind.u64 0, Value.int IntKind.u64 0, Value.int IntKind.u64 0, Value.int IntKind.u64 0, Value.int IntKind.u64 0, Value.int IntKind.u64 0, Value.int IntKind.u64 0, Value.int IntKind.u64 0, Value.int IntKind.u64 0, Value.int IntKind.u64 0, Value.int IntKind.u64 0] 58)
      simpa using this
    refine ⟨fun j z hj => ?_, ?_, ?_, by omega, by omega, by go_grown⟩
    · have hj0 : j = 0 := by
        have := (List.getElem?_eq_some_iff.1 hj).1
        simp at this; omega
      subst hj0
      simp at hj
      subst hj
      rw [enl]
      intro i v hv
      rw [cell_of_row _ _ _ _ _ _ e2]
      have hi : i < 4 := by have := (List.getElem?_eq_some_iff.1 hv).1; simpa using this
      have : i = 0 ∨ i = 1 ∨ i = 2 ∨ i = 3 := by omega
      rcases this with rfl | rfl | rfl | rfl <;> exact hv
    · intro j hj
      refine ⟨?_, frozen_of_row _ _ _ _ _ e2⟩
      rw [cell_of_row _ _ _ _ _ _ e2]
      simp; omega
    · have h1 : ((w.alloc (Obj.cells #[Value.int IntKind.u64 x0, Value.int IntKind.u64 x1, Value.int IntKind.u64 x2, Value.int IntKind.u64 x3] 38)).alloc (Obj.cells #[Value.int IntKind.u64 0, Value.int IntKind.u64 0, Value.int IntKind.u64 0, Value.int IntKind.u64 0] 38)).there (w.heap.size + 1) 0 4 := by
        have := there_alloc_new (w.alloc (Obj.cells #[Value.int IntKind.u64 x0, Value.int IntKind.u64 x1, Value.int IntKind.u64 x2, Value.int IntKind.u64 x3] 38)) 38 #[Value.int IntKind.u64 0, Value.int IntKind.u64 0, Value.int IntKind.u64 0, Value.int IntKind.u64 0] 4 (by simp)
        rwa [show (w.alloc (Obj.cells #[Value.int IntKind.u64 x0, Value.int IntKind.u64 x1, Value.int IntKind.u64 x2, Value.int IntKind.u64 x3] 38)).heap.size = w.heap.size + 1 by simp] at this
      exact there_grown h1 (Grown.alloc (Grown.refl _) _ _)
  have hG0 := rangeAt_grown hG hL0.grown
  rw [ex]
  go_enter Tryd.func40, Tryd.ntmps40
  go_wp2_with (with_reducible show wpList _ _ _ ({ dst := _, op := Op.load 60 _, type := _, pos := _, after := _, guard := _ } :: _) _ _; refine Shut.out ?_)
  show wpList _ _ _ _ _ _
  refine wpList_load_mid rfl 60 _ rfl 2 0 rfl PW _ hG0 Tryd.underlying60 rfl infoT ?_
  simp only [Act.put, List.setIfInBounds_toArray, List.set_cons_zero, List.set_cons_succ]
  generalize (((w.alloc (Obj.cells #[Value.int IntKind.u64 x0, Value.int IntKind.u64 x1, Value.int IntKind.u64 x2, Value.int IntKind.u64 x3] 38)).alloc (Obj.cells #[Value.int IntKind.u64 0, Value.int IntKind.u64 0, Value.int IntKind.u64 0, Value.int IntKind.u64 0] 38)).alloc (Obj.cells #[Value.int IntKind.u64 x0, Value.int IntKind.u64 x1, Value.int IntKind.u64 x2, Value.int IntKind.u64 x3, Value.int IntKind.u64 0, Value.int IntKind.u64 0, Value.int IntKind.u64 0, Value.int IntKind.u64 0, Value.int IntKind.u64 0, Value.int IntKind.u64 0, Value.int IntKind.u64 0, Value.int IntKind.u64 0, Value.int IntKind.u64 0, Value.int IntKind.u64 0, Value.int IntKind.u64 0, Value.int IntKind.u64 0, Value.int IntKind.u64 0, Value.int IntKind.u64 0, Value.int IntKind.u64 0, Value.int IntKind.u64 0, Value.int IntKind.u64 0, Value.int IntKind.u64 0, Value.int IntKind.u64 0, Value.int IntKind.u64 0, Value.int IntKind.u64 0, Value.int IntKind.u64 0, Value.int IntKind.u64 0, Value.int IntKind.u64 0, Value.int IntKind.u64 0, Value.int IntKind.u64 0, Value.int IntKind.u64 0, Value.int IntKind.u64 0, Value.int IntKind.u64 0, Value.int IntKind.u64 0, Value.int IntKind.u64 0, Value.int IntKind.u64 0, Value.int IntKind.u64 0, Value.int IntKind.u64 0, Value.int IntKind.u64 0, Value.int IntKind.u64 0, Value.int IntKind.u64 0, Value.int IntKind.u64 0, Value.int IntKind.u64 0, Value.int IntKind.u64 0] 58)) = W0 at hL0 ⊢
  clear hG0 enl
  unfold PW
  go_wp2
  go_loopw [9] (fun v9 wr => ∃ (k : Nat) (zs : List Nat), v9 = .int .i64 k ∧ k ≤ 10 ∧ zs.length = k + 1 ∧ Way x zs ∧ LP w (w.heap.size + 1 + 1) (w.heap.size + 1) zs wr) (fun v9 _ => (10 - intOf v9).toNat)
  case atStart =>
    refine ⟨0, [x], rfl, by decide, rfl, ?_, hL0⟩
    intro j z hj
    have hj0 : j = 0 := by
      have := (List.getElem?_eq_some_iff.1 hj).1
      simp at this; omega
    subst hj0
    simp at hj
    subst hj
    exact ⟨hx, by simp [EX]⟩
  case round =>
    obtain ⟨k, zs, rfl, hk, hlen, hz, hL⟩ := hrel
    clear hL0
    by_cases h10 : k = 10
    · subst h10
      obtain ⟨z, hzz⟩ : ∃ z, zs[10]? = some z := ⟨_, List.getElem?_eq_getElem (by omega)⟩
      obtain ⟨bz, ez⟩ := hz 10 z hzz
      have rz := hL.rows 10 z hzz
      have htr := hL.tr
      have hgw := hL.grown
      clear hz hL
      go_wp2_with (with_reducible show wpList _ _ _ ({ dst := _, op := Op.load 38 _, type := _, pos := _, after := _, guard := _ } :: _) _ _; refine Shut.out ?_)
      show wpList _ _ _ _ _ _
      refine wpList_load_mid rfl 38 _ rfl (w.heap.size + 1 + 1) 40 rfl (nl z) _ rz Tryd.underlying38 rfl (by rw [nl_length]; exact infoN) ?_
      simp only [Act.put, List.setIfInBounds_toArray, List.set_cons_zero, List.set_cons_succ]
      refine wpList_store_mid rfl 38 _ _ rfl (w.heap.size + 1) 0 (nl z).toArray rfl rfl (by rw [show (nl z).toArray.size = 4 from by rw [List.size_toArray, nl_length]]; exact htr) (by rw [List.size_toArray, nl_length]; exact infoN) (all_oneCell_toArray (nl_one z)) ?_
      simp only [Act.put]
      apply wpList_nil
      repeat go_step
      refine bodyPost_ret (v := numV z) (resultN Tryd.results40 _ _ (w.heap.size + 1) z ?hp (World.rangeAt_setCells_same wr (w.heap.size + 1) 0 (nl z) (by rw [nl_length]; exact htr))) ?hd ?_
      case hp => rfl
      case hd => rfl
      exact ⟨⟨z, rfl, bz, ez⟩, grown_setCells (by omega) _ _ hgw⟩
    rcases (by omega : k = 0 ∨ k = 1 ∨ k = 2 ∨ k = 3 ∨ k = 4 ∨ k = 5 ∨ k = 6 ∨ k = 7 ∨ k = 8 ∨ k = 9) with rfl | rfl | rfl | rfl | rfl | rfl | rfl | rfl | rfl | rfl
    · -- round 0
      obtain ⟨zk, hzk⟩ : ∃ z, zs[0]? = some z := ⟨_, List.getElem?_eq_getElem (by omega)⟩
      obtain ⟨zp, hzp⟩ : ∃ z, zs[0]? = some z := ⟨_, List.getElem?_eq_getElem (by omega)⟩
      obtain ⟨bk, ek⟩ := hz 0 zk hzk
      obtain ⟨bp, ep⟩ := hz 0 zp hzp
      have rk := hL.rows 0 zk hzk
      have hS : Sx w (w.heap.size + 1 + 1) (w.heap.size + 1) zs wr.heap.size 1 0 (wr.alloc (Obj.cells #[Value.int IntKind.i64 1, Value.int IntKind.i64 0] 59)).drew := Sx.start hL 1 0 59
      clear rk
      have hix : ∀ w : World, (Instr.index 60 (Value.agg #[Value.int IntKind.i64 1, Value.int IntKind.i64 0, Value.int IntKind.i64 2, Value.int IntKind.i64 1, Value.int IntKind.i64 1, Value.int IntKind.i64 0, Value.int IntKind.i64 5, Value.int IntKind.i64 3, Value.int IntKind.i64 10, Value.int IntKind.i64 4, Value.int IntKind.i64 20, Value.int IntKind.i64 5, Value.int IntKind.i64 10, Value.int IntKind.i64 4, Value.int IntKind.i64 50, Value.int IntKind.i64 7, Value.int IntKind.i64 100, Value.int IntKind.i64 8, Value.int IntKind.i64 50, Value.int IntKind.i64 7]) (Value.int IntKind.i64 0)).run Tryd.prog w = .ok (Value.agg #[Value.int IntKind.i64 1, Value.int IntKind.i64 0]) w := fun _ => by kernel_rfl
      go_wp2
      clear hix
      refine wp_region_noPanic ?_
      refine wp_region_held_drew (S := Sx w (w.heap.size + 1 + 1) (w.heap.size + 1) zs wr.heap.size 1 0) (by kernel_rfl) hS (fun hH => ?_)
      refine takeV 0 (.int .i64 0) rfl (by kernel_rfl) (by kernel_rfl) (by kernel_rfl) (fun _ _ _ h => h) (by rfl) (fun w _ => rfl) hH ?_
      simp only [Act.put, List.setIfInBounds_toArray, List.set_cons_zero, List.set_cons_succ]
      refine takeV 1 (.int .i64 1) rfl (by kernel_rfl) (by kernel_rfl) (by kernel_rfl) (fun _ _ _ h => h) (by rfl) (fun w _ => by go_simp; rfl) hH ?_
      simp only [Act.put, List.setIfInBounds_toArray, List.set_cons_zero, List.set_cons_succ]
      refine takeV 2 (.int .i64 0) rfl (by kernel_rfl) (by kernel_rfl) (by kernel_rfl) (fun _ _ _ h => h) (by rfl) (fun w _ => rfl) hH ?_
      simp only [Act.put, List.setIfInBounds_toArray, List.set_cons_zero, List.set_cons_succ]
      refine takeV 3 (.pointer (some ⟨w.heap.size + 1 + 1, 0, none⟩)) rfl (by kernel_rfl) (by kernel_rfl) (by kernel_rfl) (fun _ _ _ h => h) (by rfl) (fun w _ => by go_simp) hH ?_
      simp only [Act.put, List.setIfInBounds_toArray, List.set_cons_zero, List.set_cons_succ]
      refine takeN 4 zk (w.heap.size + 1 + 1) 0 rfl (by kernel_rfl) (by kernel_rfl) (by kernel_rfl) (fun _ _ _ h => h) (by rfl) rfl rfl (fun _ h => h.lp.rows 0 zk hzk) hH ?_
      simp only [Act.put, List.setIfInBounds_toArray, List.set_cons_zero, List.set_cons_succ]
      refine takeV 5 (.pointer (some ⟨wr.heap.size, 0, none⟩)) rfl (by kernel_rfl) (by kernel_rfl) (by kernel_rfl) (fun _ _ _ h => h) (by rfl) (fun w _ => by go_simp) hH ?_
      simp only [Act.put, List.setIfInBounds_toArray, List.set_cons_zero, List.set_cons_succ]
      refine takeV 6 (.int .i64 1) rfl (by kernel_rfl) (by kernel_rfl) (by kernel_rfl) (fun _ _ _ h => h) (by rfl) (fun w h => by have hc := h.c0; go_simp) hH ?_
      simp only [Act.put, List.setIfInBounds_toArray, List.set_cons_zero, List.set_cons_succ]
      refine takeV 8 (.pointer (some ⟨wr.heap.size, 1, none⟩)) rfl (by kernel_rfl) (by kernel_rfl) (by kernel_rfl) (fun _ _ _ h => h) (by rfl) (fun w _ => by go_simp) hH ?_
      simp only [Act.put, List.setIfInBounds_toArray, List.set_cons_zero, List.set_cons_succ]
      refine takeV 9 (.int .i64 0) rfl (by kernel_rfl) (by kernel_rfl) (by kernel_rfl) (fun _ _ _ h => h) (by rfl) (fun w h => by have hc := h.c1; go_simp) hH ?_
      simp only [Act.put, List.setIfInBounds_toArray, List.set_cons_zero, List.set_cons_succ]
      refine takeV 10 (.pointer (some ⟨w.heap.size + 1 + 1, 0, none⟩)) rfl (by kernel_rfl) (by kernel_rfl) (by kernel_rfl) (fun _ _ _ h => h) (by rfl) (fun w _ => by go_simp) hH ?_
      simp only [Act.put, List.setIfInBounds_toArray, List.set_cons_zero, List.set_cons_succ]
      refine takeN 11 zp (w.heap.size + 1 + 1) 0 rfl (by kernel_rfl) (by kernel_rfl) (by kernel_rfl) (fun _ _ _ h => h) (by rfl) rfl rfl (fun _ h => h.lp.rows 0 zp hzp) hH ?_
      simp only [Act.put, List.setIfInBounds_toArray, List.set_cons_zero, List.set_cons_succ]
      refine step1 7 (by kernel_rfl) rfl (fun K hK => ?_)
      rw [if_pos (by rfl)]
      go_simp
      refine Calls.mono (squared_num zk 1 bk (by decide) _) ?_
      rintro e w1 ⟨⟨u, rfl, hu, hup⟩, hg1⟩
      dsimp only
      refine hK.out _ _ (hH.grown hg1) (fun hH1 => ?_)
      clear hK K
      refine step1 12 (by kernel_rfl) rfl (fun K hK => ?_)
      rw [if_pos (by rfl)]
      go_simp
      refine Calls.mono (times_num u zp hu bp _) ?_
      rintro e w2 ⟨⟨t, rfl, ht, htp⟩, hg2⟩
      dsimp only
      refine hK.out _ _ (hH1.grown hg2) (fun hH2 => ?_)
      clear hK K
      refine takeV 13 (.pointer (some ⟨w.heap.size + 1 + 1, 4, none⟩)) rfl (by kernel_rfl) (by kernel_rfl) (by kernel_rfl) (fun _ _ _ h => h) (by rfl) (fun w _ => by go_simp) hH2 ?_
      simp only [Act.put, List.setIfInBounds_toArray, List.set_cons_zero, List.set_cons_succ]
      refine step1 14 (by kernel_rfl) rfl (fun K hK => ?_)
      refine storeN t (w.heap.size + 1 + 1) 4 rfl (by rfl) rfl rfl (hH2.lp.there4 4 (by decide)) (fun w3 hw3 => ?_)
      simp only [Act.put]
      have hP := hH2.lp.push t (by omega : zs.length = 0 + 1) (by decide) hw3
      refine hK.out _ _ (hH2.stored (by omega) hw3) (fun _ => ?_)
      clear hK K
      refine wpAnyH_done (by kernel_rfl) ?_ _
      refine NoPanic.normal ?_
      have hpw := pw_step ek ep hup htp
      rw [show EX.getD 0 0 * 2 ^ 1 + EX.getD 0 0 = EX.getD (0 + 1) 0 from by decide +kernel] at hpw
      have hzz := Hid.of (zs_push hz t (by omega : zs.length = 0 + 1) ht hpw)
      clear hS hH hH1 hH2 hz hL ek ep hup htp hg1 hg2 hw3 hpw
      go_wp2
      go_roundw
      case rel => exact ⟨1, zs ++ [t], rfl, by decide, by simp; omega, hzz.out, hP⟩
      case measure => simp [intOf]
    · -- round 1
      obtain ⟨zk, hzk⟩ : ∃ z, zs[1]? = some z := ⟨_, List.getElem?_eq_getElem (by omega)⟩
      obtain ⟨zp, hzp⟩ : ∃ z, zs[1]? = some z := ⟨_, List.getElem?_eq_getElem (by omega)⟩
      obtain ⟨bk, ek⟩ := hz 1 zk hzk
      obtain ⟨bp, ep⟩ := hz 1 zp hzp
      have rk := hL.rows 1 zk hzk
      have hS : Sx w (w.heap.size + 1 + 1) (w.heap.size + 1) zs wr.heap.size 2 1 (wr.alloc (Obj.cells #[Value.int IntKind.i64 2, Value.int IntKind.i64 1] 59)).drew := Sx.start hL 2 1 59
      clear rk
      have hix : ∀ w : World, (Instr.index 60 (Value.agg #[Value.int IntKind.i64 1, Value.int IntKind.i64 0, Value.int IntKind.i64 2, Value.int IntKind.i64 1, Value.int IntKind.i64 1, Value.int IntKind.i64 0, Value.int IntKind.i64 5, Value.int IntKind.i64 3, Value.int IntKind.i64 10, Value.int IntKind.i64 4, Value.int IntKind.i64 20, Value.int IntKind.i64 5, Value.int IntKind.i64 10, Value.int IntKind.i64 4, Value.int IntKind.i64 50, Value.int IntKind.i64 7, Value.int IntKind.i64 100, Value.int IntKind.i64 8, Value.int IntKind.i64 50, Value.int IntKind.i64 7]) (Value.int IntKind.i64 1)).run Tryd.prog w = .ok (Value.agg #[Value.int IntKind.i64 2, Value.int IntKind.i64 1]) w := fun _ => by kernel_rfl
      go_wp2
      clear hix
      refine wp_region_noPanic ?_
      refine wp_region_held_drew (S := Sx w (w.heap.size + 1 + 1) (w.heap.size + 1) zs wr.heap.size 2 1) (by kernel_rfl) hS (fun hH => ?_)
      refine takeV 0 (.int .i64 1) rfl (by kernel_rfl) (by kernel_rfl) (by kernel_rfl) (fun _ _ _ h => h) (by rfl) (fun w _ => rfl) hH ?_
      simp only [Act.put, List.setIfInBounds_toArray, List.set_cons_zero, List.set_cons_succ]
      refine takeV 1 (.int .i64 2) rfl (by kernel_rfl) (by kernel_rfl) (by kernel_rfl) (fun _ _ _ h => h) (by rfl) (fun w _ => by go_simp; rfl) hH ?_
      simp only [Act.put, List.setIfInBounds_toArray, List.set_cons_zero, List.set_cons_succ]
      refine takeV 2 (.int .i64 1) rfl (by kernel_rfl) (by kernel_rfl) (by kernel_rfl) (fun _ _ _ h => h) (by rfl) (fun w _ => rfl) hH ?_
      simp only [Act.put, List.setIfInBounds_toArray, List.set_cons_zero, List.set_cons_succ]
      refine takeV 3 (.pointer (some ⟨w.heap.size + 1 + 1, 4, none⟩)) rfl (by kernel_rfl) (by kernel_rfl) (by kernel_rfl) (fun _ _ _ h => h) (by rfl) (fun w _ => by go_simp) hH ?_
      simp only [Act.put, List.setIfInBounds_toArray, List.set_cons_zero, List.set_cons_succ]
      refine takeN 4 zk (w.heap.size + 1 + 1) 4 rfl (by kernel_rfl) (by kernel_rfl) (by kernel_rfl) (fun _ _ _ h => h) (by rfl) rfl rfl (fun _ h => h.lp.rows 1 zk hzk) hH ?_
      simp only [Act.put, List.setIfInBounds_toArray, List.set_cons_zero, List.set_cons_succ]
      refine takeV 5 (.pointer (some ⟨wr.heap.size, 0, none⟩)) rfl (by kernel_rfl) (by kernel_rfl) (by kernel_rfl) (fun _ _ _ h => h) (by rfl) (fun w _ => by go_simp) hH ?_
      simp only [Act.put, List.setIfInBounds_toArray, List.set_cons_zero, List.set_cons_succ]
      refine takeV 6 (.int .i64 2) rfl (by kernel_rfl) (by kernel_rfl) (by kernel_rfl) (fun _ _ _ h => h) (by rfl) (fun w h => by have hc := h.c0; go_simp) hH ?_
      simp only [Act.put, List.setIfInBounds_toArray, List.set_cons_zero, List.set_cons_succ]
      refine takeV 8 (.pointer (some ⟨wr.heap.size, 1, none⟩)) rfl (by kernel_rfl) (by kernel_rfl) (by kernel_rfl) (fun _ _ _ h => h) (by rfl) (fun w _ => by go_simp) hH ?_
      simp only [Act.put, List.setIfInBounds_toArray, List.set_cons_zero, List.set_cons_succ]
      refine takeV 9 (.int .i64 1) rfl (by kernel_rfl) (by kernel_rfl) (by kernel_rfl) (fun _ _ _ h => h) (by rfl) (fun w h => by have hc := h.c1; go_simp) hH ?_
      simp only [Act.put, List.setIfInBounds_toArray, List.set_cons_zero, List.set_cons_succ]
      refine takeV 10 (.pointer (some ⟨w.heap.size + 1 + 1, 4, none⟩)) rfl (by kernel_rfl) (by kernel_rfl) (by kernel_rfl) (fun _ _ _ h => h) (by rfl) (fun w _ => by go_simp) hH ?_
      simp only [Act.put, List.setIfInBounds_toArray, List.set_cons_zero, List.set_cons_succ]
      refine takeN 11 zp (w.heap.size + 1 + 1) 4 rfl (by kernel_rfl) (by kernel_rfl) (by kernel_rfl) (fun _ _ _ h => h) (by rfl) rfl rfl (fun _ h => h.lp.rows 1 zp hzp) hH ?_
      simp only [Act.put, List.setIfInBounds_toArray, List.set_cons_zero, List.set_cons_succ]
      refine step1 7 (by kernel_rfl) rfl (fun K hK => ?_)
      rw [if_pos (by rfl)]
      go_simp
      refine Calls.mono (squared_num zk 2 bk (by decide) _) ?_
      rintro e w1 ⟨⟨u, rfl, hu, hup⟩, hg1⟩
      dsimp only
      refine hK.out _ _ (hH.grown hg1) (fun hH1 => ?_)
      clear hK K
      refine step1 12 (by kernel_rfl) rfl (fun K hK => ?_)
      rw [if_pos (by rfl)]
      go_simp
      refine Calls.mono (times_num u zp hu bp _) ?_
      rintro e w2 ⟨⟨t, rfl, ht, htp⟩, hg2⟩
      dsimp only
      refine hK.out _ _ (hH1.grown hg2) (fun hH2 => ?_)
      clear hK K
      refine takeV 13 (.pointer (some ⟨w.heap.size + 1 + 1, 8, none⟩)) rfl (by kernel_rfl) (by kernel_rfl) (by kernel_rfl) (fun _ _ _ h => h) (by rfl) (fun w _ => by go_simp) hH2 ?_
      simp only [Act.put, List.setIfInBounds_toArray, List.set_cons_zero, List.set_cons_succ]
      refine step1 14 (by kernel_rfl) rfl (fun K hK => ?_)
      refine storeN t (w.heap.size + 1 + 1) 8 rfl (by rfl) rfl rfl (hH2.lp.there4 8 (by decide)) (fun w3 hw3 => ?_)
      simp only [Act.put]
      have hP := hH2.lp.push t (by omega : zs.length = 1 + 1) (by decide) hw3
      refine hK.out _ _ (hH2.stored (by omega) hw3) (fun _ => ?_)
      clear hK K
      refine wpAnyH_done (by kernel_rfl) ?_ _
      refine NoPanic.normal ?_
      have hpw := pw_step ek ep hup htp
      rw [show EX.getD 1 0 * 2 ^ 2 + EX.getD 1 0 = EX.getD (1 + 1) 0 from by decide +kernel] at hpw
      have hzz := Hid.of (zs_push hz t (by omega : zs.length = 1 + 1) ht hpw)
      clear hS hH hH1 hH2 hz hL ek ep hup htp hg1 hg2 hw3 hpw
      go_wp2
      go_roundw
      case rel => exact ⟨2, zs ++ [t], rfl, by decide, by simp; omega, hzz.out, hP⟩
      case measure => simp [intOf]
    · -- round 2
      obtain ⟨zk, hzk⟩ : ∃ z, zs[2]? = some z := ⟨_, List.getElem?_eq_getElem (by omega)⟩
      obtain ⟨zp, hzp⟩ : ∃ z, zs[0]? = some z := ⟨_, List.getElem?_eq_getElem (by omega)⟩
      obtain ⟨bk, ek⟩ := hz 2 zk hzk
      obtain ⟨bp, ep⟩ := hz 0 zp hzp
      have rk := hL.rows 2 zk hzk
      have hS : Sx w (w.heap.size + 1 + 1) (w.heap.size + 1) zs wr.heap.size 1 0 (wr.alloc (Obj.cells #[Value.int IntKind.i64 1, Value.int IntKind.i64 0] 59)).drew := Sx.start hL 1 0 59
      clear rk
      have hix : ∀ w : World, (Instr.index 60 (Value.agg #[Value.int IntKind.i64 1, Value.int IntKind.i64 0, Value.int IntKind.i64 2, Value.int IntKind.i64 1, Value.int IntKind.i64 1, Value.int IntKind.i64 0, Value.int IntKind.i64 5, Value.int IntKind.i64 3, Value.int IntKind.i64 10, Value.int IntKind.i64 4, Value.int IntKind.i64 20, Value.int IntKind.i64 5, Value.int IntKind.i64 10, Value.int IntKind.i64 4, Value.int IntKind.i64 50, Value.int IntKind.i64 7, Value.int IntKind.i64 100, Value.int IntKind.i64 8, Value.int IntKind.i64 50, Value.int IntKind.i64 7]) (Value.int IntKind.i64 2)).run Tryd.prog w = .ok (Value.agg #[Value.int IntKind.i64 1, Value.int IntKind.i64 0]) w := fun _ => by kernel_rfl
      go_wp2
      clear hix
      refine wp_region_noPanic ?_
      refine wp_region_held_drew (S := Sx w (w.heap.size + 1 + 1) (w.heap.size + 1) zs wr.heap.size 1 0) (by kernel_rfl) hS (fun hH => ?_)
      refine takeV 0 (.int .i64 2) rfl (by kernel_rfl) (by kernel_rfl) (by kernel_rfl) (fun _ _ _ h => h) (by rfl) (fun w _ => rfl) hH ?_
      simp only [Act.put, List.setIfInBounds_toArray, List.set_cons_zero, List.set_cons_succ]
      refine takeV 1 (.int .i64 3) rfl (by kernel_rfl) (by kernel_rfl) (by kernel_rfl) (fun _ _ _ h => h) (by rfl) (fun w _ => by go_simp; rfl) hH ?_
      simp only [Act.put, List.setIfInBounds_toArray, List.set_cons_zero, List.set_cons_succ]
      refine takeV 2 (.int .i64 2) rfl (by kernel_rfl) (by kernel_rfl) (by kernel_rfl) (fun _ _ _ h => h) (by rfl) (fun w _ => rfl) hH ?_
      simp only [Act.put, List.setIfInBounds_toArray, List.set_cons_zero, List.set_cons_succ]
      refine takeV 3 (.pointer (some ⟨w.heap.size + 1 + 1, 8, none⟩)) rfl (by kernel_rfl) (by kernel_rfl) (by kernel_rfl) (fun _ _ _ h => h) (by rfl) (fun w _ => by go_simp) hH ?_
      simp only [Act.put, List.setIfInBounds_toArray, List.set_cons_zero, List.set_cons_succ]
      refine takeN 4 zk (w.heap.size + 1 + 1) 8 rfl (by kernel_rfl) (by kernel_rfl) (by kernel_rfl) (fun _ _ _ h => h) (by rfl) rfl rfl (fun _ h => h.lp.rows 2 zk hzk) hH ?_
      simp only [Act.put, List.setIfInBounds_toArray, List.set_cons_zero, List.set_cons_succ]
      refine takeV 5 (.pointer (some ⟨wr.heap.size, 0, none⟩)) rfl (by kernel_rfl) (by kernel_rfl) (by kernel_rfl) (fun _ _ _ h => h) (by rfl) (fun w _ => by go_simp) hH ?_
      simp only [Act.put, List.setIfInBounds_toArray, List.set_cons_zero, List.set_cons_succ]
      refine takeV 6 (.int .i64 1) rfl (by kernel_rfl) (by kernel_rfl) (by kernel_rfl) (fun _ _ _ h => h) (by rfl) (fun w h => by have hc := h.c0; go_simp) hH ?_
      simp only [Act.put, List.setIfInBounds_toArray, List.set_cons_zero, List.set_cons_succ]
      refine takeV 8 (.pointer (some ⟨wr.heap.size, 1, none⟩)) rfl (by kernel_rfl) (by kernel_rfl) (by kernel_rfl) (fun _ _ _ h => h) (by rfl) (fun w _ => by go_simp) hH ?_
      simp only [Act.put, List.setIfInBounds_toArray, List.set_cons_zero, List.set_cons_succ]
      refine takeV 9 (.int .i64 0) rfl (by kernel_rfl) (by kernel_rfl) (by kernel_rfl) (fun _ _ _ h => h) (by rfl) (fun w h => by have hc := h.c1; go_simp) hH ?_
      simp only [Act.put, List.setIfInBounds_toArray, List.set_cons_zero, List.set_cons_succ]
      refine takeV 10 (.pointer (some ⟨w.heap.size + 1 + 1, 0, none⟩)) rfl (by kernel_rfl) (by kernel_rfl) (by kernel_rfl) (fun _ _ _ h => h) (by rfl) (fun w _ => by go_simp) hH ?_
      simp only [Act.put, List.setIfInBounds_toArray, List.set_cons_zero, List.set_cons_succ]
      refine takeN 11 zp (w.heap.size + 1 + 1) 0 rfl (by kernel_rfl) (by kernel_rfl) (by kernel_rfl) (fun _ _ _ h => h) (by rfl) rfl rfl (fun _ h => h.lp.rows 0 zp hzp) hH ?_
      simp only [Act.put, List.setIfInBounds_toArray, List.set_cons_zero, List.set_cons_succ]
      refine step1 7 (by kernel_rfl) rfl (fun K hK => ?_)
      rw [if_pos (by rfl)]
      go_simp
      refine Calls.mono (squared_num zk 1 bk (by decide) _) ?_
      rintro e w1 ⟨⟨u, rfl, hu, hup⟩, hg1⟩
      dsimp only
      refine hK.out _ _ (hH.grown hg1) (fun hH1 => ?_)
      clear hK K
      refine step1 12 (by kernel_rfl) rfl (fun K hK => ?_)
      rw [if_pos (by rfl)]
      go_simp
      refine Calls.mono (times_num u zp hu bp _) ?_
      rintro e w2 ⟨⟨t, rfl, ht, htp⟩, hg2⟩
      dsimp only
      refine hK.out _ _ (hH1.grown hg2) (fun hH2 => ?_)
      clear hK K
      refine takeV 13 (.pointer (some ⟨w.heap.size + 1 + 1, 12, none⟩)) rfl (by kernel_rfl) (by kernel_rfl) (by kernel_rfl) (fun _ _ _ h => h) (by rfl) (fun w _ => by go_simp) hH2 ?_
      simp only [Act.put, List.setIfInBounds_toArray, List.set_cons_zero, List.set_cons_succ]
      refine step1 14 (by kernel_rfl) rfl (fun K hK => ?_)
      refine storeN t (w.heap.size + 1 + 1) 12 rfl (by rfl) rfl rfl (hH2.lp.there4 12 (by decide)) (fun w3 hw3 => ?_)
      simp only [Act.put]
      have hP := hH2.lp.push t (by omega : zs.length = 2 + 1) (by decide) hw3
      refine hK.out _ _ (hH2.stored (by omega) hw3) (fun _ => ?_)
      clear hK K
      refine wpAnyH_done (by kernel_rfl) ?_ _
      refine NoPanic.normal ?_
      have hpw := pw_step ek ep hup htp
      rw [show EX.getD 2 0 * 2 ^ 1 + EX.getD 0 0 = EX.getD (2 + 1) 0 from by decide +kernel] at hpw
      have hzz := Hid.of (zs_push hz t (by omega : zs.length = 2 + 1) ht hpw)
      clear hS hH hH1 hH2 hz hL ek ep hup htp hg1 hg2 hw3 hpw
      go_wp2
      go_roundw
      case rel => exact ⟨3, zs ++ [t], rfl, by decide, by simp; omega, hzz.out, hP⟩
      case measure => simp [intOf]
    · -- round 3
      obtain ⟨zk, hzk⟩ : ∃ z, zs[3]? = some z := ⟨_, List.getElem?_eq_getElem (by omega)⟩
      obtain ⟨zp, hzp⟩ : ∃ z, zs[3]? = some z := ⟨_, List.getElem?_eq_getElem (by omega)⟩
      obtain ⟨bk, ek⟩ := hz 3 zk hzk
      obtain ⟨bp, ep⟩ := hz 3 zp hzp
      have rk := hL.rows 3 zk hzk
      have hS : Sx w (w.heap.size + 1 + 1) (w.heap.size + 1) zs wr.heap.size 5 3 (wr.alloc (Obj.cells #[Value.int IntKind.i64 5, Value.int IntKind.i64 3] 59)).drew := Sx.start hL 5 3 59
      clear rk
      have hix : ∀ w : World, (Instr.index 60 (Value.agg #[Value.int IntKind.i64 1, Value.int IntKind.i64 0, Value.int IntKind.i64 2, Value.int IntKind.i64 1, Value.int IntKind.i64 1, Value.int IntKind.i64 0, Value.int IntKind.i64 5, Value.int IntKind.i64 3, Value.int IntKind.i64 10, Value.int IntKind.i64 4, Value.int IntKind.i64 20, Value.int IntKind.i64 5, Value.int IntKind.i64 10, Value.int IntKind.i64 4, Value.int IntKind.i64 50, Value.int IntKind.i64 7, Value.int IntKind.i64 100, Value.int IntKind.i64 8, Value.int IntKind.i64 50, Value.int IntKind.i64 7]) (Value.int IntKind.i64 3)).run Tryd.prog w = .ok (Value.agg #[Value.int IntKind.i64 5, Value.int IntKind.i64 3]) w := fun _ => by kernel_rfl
      go_wp2
      clear hix
      refine wp_region_noPanic ?_
      refine wp_region_held_drew (S := Sx w (w.heap.size + 1 + 1) (w.heap.size + 1) zs wr.heap.size 5 3) (by kernel_rfl) hS (fun hH => ?_)
      refine takeV 0 (.int .i64 3) rfl (by kernel_rfl) (by kernel_rfl) (by kernel_rfl) (fun _ _ _ h => h) (by rfl) (fun w _ => rfl) hH ?_
      simp only [Act.put, List.setIfInBounds_toArray, List.set_cons_zero, List.set_cons_succ]
      refine takeV 1 (.int .i64 4) rfl (by kernel_rfl) (by kernel_rfl) (by kernel_rfl) (fun _ _ _ h => h) (by rfl) (fun w _ => by go_simp; rfl) hH ?_
      simp only [Act.put, List.setIfInBounds_toArray, List.set_cons_zero, List.set_cons_succ]
      refine takeV 2 (.int .i64 3) rfl (by kernel_rfl) (by kernel_rfl) (by kernel_rfl) (fun _ _ _ h => h) (by rfl) (fun w _ => rfl) hH ?_
      simp only [Act.put, List.setIfInBounds_toArray, List.set_cons_zero, List.set_cons_succ]
      refine takeV 3 (.pointer (some ⟨w.heap.size + 1 + 1, 12, none⟩)) rfl (by kernel_rfl) (by kernel_rfl) (by kernel_rfl) (fun _ _ _ h => h) (by rfl) (fun w _ => by go_simp) hH ?_
      simp only [Act.put, List.setIfInBounds_toArray, List.set_cons_zero, List.set_cons_succ]
      refine takeN 4 zk (w.heap.size + 1 + 1) 12 rfl (by kernel_rfl) (by kernel_rfl) (by kernel_rfl) (fun _ _ _ h => h) (by rfl) rfl rfl (fun _ h => h.lp.rows 3 zk hzk) hH ?_
      simp only [Act.put, List.setIfInBounds_toArray, List.set_cons_zero, List.set_cons_succ]
      refine takeV 5 (.pointer (some ⟨wr.heap.size, 0, none⟩)) rfl (by kernel_rfl) (by kernel_rfl) (by kernel_rfl) (fun _ _ _ h => h) (by rfl) (fun w _ => by go_simp) hH ?_
      simp only [Act.put, List.setIfInBounds_toArray, List.set_cons_zero, List.set_cons_succ]
      refine takeV 6 (.int .i64 5) rfl (by kernel_rfl) (by kernel_rfl) (by kernel_rfl) (fun _ _ _ h => h) (by rfl) (fun w h => by have hc := h.c0; go_simp) hH ?_
      simp only [Act.put, List.setIfInBounds_toArray, List.set_cons_zero, List.set_cons_succ]
      refine takeV 8 (.pointer (some ⟨wr.heap.size, 1, none⟩)) rfl (by kernel_rfl) (by kernel_rfl) (by kernel_rfl) (fun _ _ _ h => h) (by rfl) (fun w _ => by go_simp) hH ?_
      simp only [Act.put, List.setIfInBounds_toArray, List.set_cons_zero, List.set_cons_succ]
      refine takeV 9 (.int .i64 3) rfl (by kernel_rfl) (by kernel_rfl) (by kernel_rfl) (fun _ _ _ h => h) (by rfl) (fun w h => by have hc := h.c1; go_simp) hH ?_
      simp only [Act.put, List.setIfInBounds_toArray, List.set_cons_zero, List.set_cons_succ]
      refine takeV 10 (.pointer (some ⟨w.heap.size + 1 + 1, 12, none⟩)) rfl (by kernel_rfl) (by kernel_rfl) (by kernel_rfl) (fun _ _ _ h => h) (by rfl) (fun w _ => by go_simp) hH ?_
      simp only [Act.put, List.setIfInBounds_toArray, List.set_cons_zero, List.set_cons_succ]
      refine takeN 11 zp (w.heap.size + 1 + 1) 12 rfl (by kernel_rfl) (by kernel_rfl) (by kernel_rfl) (fun _ _ _ h => h) (by rfl) rfl rfl (fun _ h => h.lp.rows 3 zp hzp) hH ?_
      simp only [Act.put, List.setIfInBounds_toArray, List.set_cons_zero, List.set_cons_succ]
      refine step1 7 (by kernel_rfl) rfl (fun K hK => ?_)
      rw [if_pos (by rfl)]
      go_simp
      refine Calls.mono (squared_num zk 5 bk (by decide) _) ?_
      rintro e w1 ⟨⟨u, rfl, hu, hup⟩, hg1⟩
      dsimp only
      refine hK.out _ _ (hH.grown hg1) (fun hH1 => ?_)
      clear hK K
      refine step1 12 (by kernel_rfl) rfl (fun K hK => ?_)
      rw [if_pos (by rfl)]
      go_simp
      refine Calls.mono (times_num u zp hu bp _) ?_
      rintro e w2 ⟨⟨t, rfl, ht, htp⟩, hg2⟩
      dsimp only
      refine hK.out _ _ (hH1.grown hg2) (fun hH2 => ?_)
      clear hK K
      refine takeV 13 (.pointer (some ⟨w.heap.size + 1 + 1, 16, none⟩)) rfl (by kernel_rfl) (by kernel_rfl) (by kernel_rfl) (fun _ _ _ h => h) (by rfl) (fun w _ => by go_simp) hH2 ?_
      simp only [Act.put, List.setIfInBounds_toArray, List.set_cons_zero, List.set_cons_succ]
      refine step1 14 (by kernel_rfl) rfl (fun K hK => ?_)
      refine storeN t (w.heap.size + 1 + 1) 16 rfl (by rfl) rfl rfl (hH2.lp.there4 16 (by decide)) (fun w3 hw3 => ?_)
      simp only [Act.put]
      have hP := hH2.lp.push t (by omega : zs.length = 3 + 1) (by decide) hw3
      refine hK.out _ _ (hH2.stored (by omega) hw3) (fun _ => ?_)
      clear hK K
      refine wpAnyH_done (by kernel_rfl) ?_ _
      refine NoPanic.normal ?_
      have hpw := pw_step ek ep hup htp
      rw [show EX.getD 3 0 * 2 ^ 5 + EX.getD 3 0 = EX.getD (3 + 1) 0 from by decide +kernel] at hpw
      have hzz := Hid.of (zs_push hz t (by omega : zs.length = 3 + 1) ht hpw)
      clear hS hH hH1 hH2 hz hL ek ep hup htp hg1 hg2 hw3 hpw
      go_wp2
      go_roundw
      case rel => exact ⟨4, zs ++ [t], rfl, by decide, by simp; omega, hzz.out, hP⟩
      case measure => simp [intOf]
    · -- round 4
      obtain ⟨zk, hzk⟩ : ∃ z, zs[4]? = some z := ⟨_, List.getElem?_eq_getElem (by omega)⟩
      obtain ⟨zp, hzp⟩ : ∃ z, zs[4]? = some z := ⟨_, List.getElem?_eq_getElem (by omega)⟩
      obtain ⟨bk, ek⟩ := hz 4 zk hzk
      obtain ⟨bp, ep⟩ := hz 4 zp hzp
      have rk := hL.rows 4 zk hzk
      have hS : Sx w (w.heap.size + 1 + 1) (w.heap.size + 1) zs wr.heap.size 10 4 (wr.alloc (Obj.cells #[Value.int IntKind.i64 10, Value.int IntKind.i64 4] 59)).drew := Sx.start hL 10 4 59
      clear rk
      have hix : ∀ w : World, (Instr.index 60 (Value.agg #[Value.int IntKind.i64 1, Value.int IntKind.i64 0, Value.int IntKind.i64 2, Value.int IntKind.i64 1, Value.int IntKind.i64 1, Value.int IntKind.i64 0, Value.int IntKind.i64 5, Value.int IntKind.i64 3, Value.int IntKind.i64 10, Value.int IntKind.i64 4, Value.int IntKind.i64 20, Value.int IntKind.i64 5, Value.int IntKind.i64 10, Value.int IntKind.i64 4, Value.int IntKind.i64 50, Value.int IntKind.i64 7, Value.int IntKind.i64 100, Value.int IntKind.i64 8, Value.int IntKind.i64 50, Value.int IntKind.i64 7]) (Value.int IntKind.i64 4)).run Tryd.prog w = .ok (Value.agg #[Value.int IntKind.i64 10, Value.int IntKind.i64 4]) w := fun _ => by kernel_rfl
      go_wp2
      clear hix
      refine wp_region_noPanic ?_
      refine wp_region_held_drew (S := Sx w (w.heap.size + 1 + 1) (w.heap.size + 1) zs wr.heap.size 10 4) (by kernel_rfl) hS (fun hH => ?_)
      refine takeV 0 (.int .i64 4) rfl (by kernel_rfl) (by kernel_rfl) (by kernel_rfl) (fun _ _ _ h => h) (by rfl) (fun w _ => rfl) hH ?_
      simp only [Act.put, List.setIfInBounds_toArray, List.set_cons_zero, List.set_cons_succ]
      refine takeV 1 (.int .i64 5) rfl (by kernel_rfl) (by kernel_rfl) (by kernel_rfl) (fun _ _ _ h => h) (by rfl) (fun w _ => by go_simp; rfl) hH ?_
      simp only [Act.put, List.setIfInBounds_toArray, List.set_cons_zero, List.set_cons_succ]
      refine takeV 2 (.int .i64 4) rfl (by kernel_rfl) (by kernel_rfl) (by kernel_rfl) (fun _ _ _ h => h) (by rfl) (fun w _ => rfl) hH ?_
      simp only [Act.put, List.setIfInBounds_toArray, List.set_cons_zero, List.set_cons_succ]
      refine takeV 3 (.pointer (some ⟨w.heap.size + 1 + 1, 16, none⟩)) rfl (by kernel_rfl) (by kernel_rfl) (by kernel_rfl) (fun _ _ _ h => h) (by rfl) (fun w _ => by go_simp) hH ?_
      simp only [Act.put, List.setIfInBounds_toArray, List.set_cons_zero, List.set_cons_succ]
      refine takeN 4 zk (w.heap.size + 1 + 1) 16 rfl (by kernel_rfl) (by kernel_rfl) (by kernel_rfl) (fun _ _ _ h => h) (by rfl) rfl rfl (fun _ h => h.lp.rows 4 zk hzk) hH ?_
      simp only [Act.put, List.setIfInBounds_toArray, List.set_cons_zero, List.set_cons_succ]
      refine takeV 5 (.pointer (some ⟨wr.heap.size, 0, none⟩)) rfl (by kernel_rfl) (by kernel_rfl) (by kernel_rfl) (fun _ _ _ h => h) (by rfl) (fun w _ => by go_simp) hH ?_
      simp only [Act.put, List.setIfInBounds_toArray, List.set_cons_zero, List.set_cons_succ]
      refine takeV 6 (.int .i64 10) rfl (by kernel_rfl) (by kernel_rfl) (by kernel_rfl) (fun _ _ _ h => h) (by rfl) (fun w h => by have hc := h.c0; go_simp) hH ?_
      simp only [Act.put, List.setIfInBounds_toArray, List.set_cons_zero, List.set_cons_succ]
      refine takeV 8 (.pointer (some ⟨wr.heap.size, 1, none⟩)) rfl (by kernel_rfl) (by kernel_rfl) (by kernel_rfl) (fun _ _ _ h => h) (by rfl) (fun w _ => by go_simp) hH ?_
      simp only [Act.put, List.setIfInBounds_toArray, List.set_cons_zero, List.set_cons_succ]
      refine takeV 9 (.int .i64 4) rfl (by kernel_rfl) (by kernel_rfl) (by kernel_rfl) (fun _ _ _ h => h) (by rfl) (fun w h => by have hc := h.c1; go_simp) hH ?_
      simp only [Act.put, List.setIfInBounds_toArray, List.set_cons_zero, List.set_cons_succ]
      refine takeV 10 (.pointer (some ⟨w.heap.size + 1 + 1, 16, none⟩)) rfl (by kernel_rfl) (by kernel_rfl) (by kernel_rfl) (fun _ _ _ h => h) (by rfl) (fun w _ => by go_simp) hH ?_
      simp only [Act.put, List.setIfInBounds_toArray, List.set_cons_zero, List.set_cons_succ]
      refine takeN 11 zp (w.heap.size + 1 + 1) 16 rfl (by kernel_rfl) (by kernel_rfl) (by kernel_rfl) (fun _ _ _ h => h) (by rfl) rfl rfl (fun _ h => h.lp.rows 4 zp hzp) hH ?_
      simp only [Act.put, List.setIfInBounds_toArray, List.set_cons_zero, List.set_cons_succ]
      refine step1 7 (by kernel_rfl) rfl (fun K hK => ?_)
      rw [if_pos (by rfl)]
      go_simp
      refine Calls.mono (squared_num zk 10 bk (by decide) _) ?_
      rintro e w1 ⟨⟨u, rfl, hu, hup⟩, hg1⟩
      dsimp only
      refine hK.out _ _ (hH.grown hg1) (fun hH1 => ?_)
      clear hK K
      refine step1 12 (by kernel_rfl) rfl (fun K hK => ?_)
      rw [if_pos (by rfl)]
      go_simp
      refine Calls.mono (times_num u zp hu bp _) ?_
      rintro e w2 ⟨⟨t, rfl, ht, htp⟩, hg2⟩
      dsimp only
      refine hK.out _ _ (hH1.grown hg2) (fun hH2 => ?_)
      clear hK K
      refine takeV 13 (.pointer (some ⟨w.heap.size + 1 + 1, 20, none⟩)) rfl (by kernel_rfl) (by kernel_rfl) (by kernel_rfl) (fun _ _ _ h => h) (by rfl) (fun w _ => by go_simp) hH2 ?_
      simp only [Act.put, List.setIfInBounds_toArray, List.set_cons_zero, List.set_cons_succ]
      refine step1 14 (by kernel_rfl) rfl (fun K hK => ?_)
      refine storeN t (w.heap.size + 1 + 1) 20 rfl (by rfl) rfl rfl (hH2.lp.there4 20 (by decide)) (fun w3 hw3 => ?_)
      simp only [Act.put]
      have hP := hH2.lp.push t (by omega : zs.length = 4 + 1) (by decide) hw3
      refine hK.out _ _ (hH2.stored (by omega) hw3) (fun _ => ?_)
      clear hK K
      refine wpAnyH_done (by kernel_rfl) ?_ _
      refine NoPanic.normal ?_
      have hpw := pw_step ek ep hup htp
      rw [show EX.getD 4 0 * 2 ^ 10 + EX.getD 4 0 = EX.getD (4 + 1) 0 from by decide +kernel] at hpw
      have hzz := Hid.of (zs_push hz t (by omega : zs.length = 4 + 1) ht hpw)
      clear hS hH hH1 hH2 hz hL ek ep hup htp hg1 hg2 hw3 hpw
      go_wp2
      go_roundw
      case rel => exact ⟨5, zs ++ [t], rfl, by decide, by simp; omega, hzz.out, hP⟩
      case measure => simp [intOf]
    · -- round 5
      obtain ⟨zk, hzk⟩ : ∃ z, zs[5]? = some z := ⟨_, List.getElem?_eq_getElem (by omega)⟩
      obtain ⟨zp, hzp⟩ : ∃ z, zs[5]? = some z := ⟨_, List.getElem?_eq_getElem (by omega)⟩
      obtain ⟨bk, ek⟩ := hz 5 zk hzk
      obtain ⟨bp, ep⟩ := hz 5 zp hzp
      have rk := hL.rows 5 zk hzk
      have hS : Sx w (w.heap.size + 1 + 1) (w.heap.size + 1) zs wr.heap.size 20 5 (wr.alloc (Obj.cells #[Value.int IntKind.i64 20, Value.int IntKind.i64 5] 59)).drew := Sx.start hL 20 5 59
      clear rk
      have hix : ∀ w : World, (Instr.index 60 (Value.agg #[Value.int IntKind.i64 1, Value.int IntKind.i64 0, Value.int IntKind.i64 2, Value.int IntKind.i64 1, Value.int IntKind.i64 1, Value.int IntKind.i64 0, Value.int IntKind.i64 5, Value.int IntKind.i64 3, Value.int IntKind.i64 10, Value.int IntKind.i64 4, Value.int IntKind.i64 20, Value.int IntKind.i64 5, Value.int IntKind.i64 10, Value.int IntKind.i64 4, Value.int IntKind.i64 50, Value.int IntKind.i64 7, Value.int IntKind.i64 100, Value.int IntKind.i64 8, Value.int IntKind.i64 50, Value.int IntKind.i64 7]) (Value.int IntKind.i64 5)).run Tryd.prog w = .ok (Value.agg #[Value.int IntKind.i64 20, Value.int IntKind.i64 5]) w := fun _ => by kernel_rfl
      go_wp2
      clear hix
      refine wp_region_noPanic ?_
      refine wp_region_held_drew (S := Sx w (w.heap.size + 1 + 1) (w.heap.size + 1) zs wr.heap.size 20 5) (by kernel_rfl) hS (fun hH => ?_)
      refine takeV 0 (.int .i64 5) rfl (by kernel_rfl) (by kernel_rfl) (by kernel_rfl) (fun _ _ _ h => h) (by rfl) (fun w _ => rfl) hH ?_
      simp only [Act.put, List.setIfInBounds_toArray, List.set_cons_zero, List.set_cons_succ]
      refine takeV 1 (.int .i64 6) rfl (by kernel_rfl) (by kernel_rfl) (by kernel_rfl) (fun _ _ _ h => h) (by rfl) (fun w _ => by go_simp; rfl) hH ?_
      simp only [Act.put, List.setIfInBounds_toArray, List.set_cons_zero, List.set_cons_succ]
      refine takeV 2 (.int .i64 5) rfl (by kernel_rfl) (by kernel_rfl) (by kernel_rfl) (fun _ _ _ h => h) (by rfl) (fun w _ => rfl) hH ?_
      simp only [Act.put, List.setIfInBounds_toArray, List.set_cons_zero, List.set_cons_succ]
      refine takeV 3 (.pointer (some ⟨w.heap.size + 1 + 1, 20, none⟩)) rfl (by kernel_rfl) (by kernel_rfl) (by kernel_rfl) (fun _ _ _ h => h) (by rfl) (fun w _ => by go_simp) hH ?_
      simp only [Act.put, List.setIfInBounds_toArray, List.set_cons_zero, List.set_cons_succ]
      refine takeN 4 zk (w.heap.size + 1 + 1) 20 rfl (by kernel_rfl) (by kernel_rfl) (by kernel_rfl) (fun _ _ _ h => h) (by rfl) rfl rfl (fun _ h => h.lp.rows 5 zk hzk) hH ?_
      simp only [Act.put, List.setIfInBounds_toArray, List.set_cons_zero, List.set_cons_succ]
      refine takeV 5 (.pointer (some ⟨wr.heap.size, 0, none⟩)) rfl (by kernel_rfl) (by kernel_rfl) (by kernel_rfl) (fun _ _ _ h => h) (by rfl) (fun w _ => by go_simp) hH ?_
      simp only [Act.put, List.setIfInBounds_toArray, List.set_cons_zero, List.set_cons_succ]
      refine takeV 6 (.int .i64 20) rfl (by kernel_rfl) (by kernel_rfl) (by kernel_rfl) (fun _ _ _ h => h) (by rfl) (fun w h => by have hc := h.c0; go_simp) hH ?_
      simp only [Act.put, List.setIfInBounds_toArray, List.set_cons_zero, List.set_cons_succ]
      refine takeV 8 (.pointer (some ⟨wr.heap.size, 1, none⟩)) rfl (by kernel_rfl) (by kernel_rfl) (by kernel_rfl) (fun _ _ _ h => h) (by rfl) (fun w _ => by go_simp) hH ?_
      simp only [Act.put, List.setIfInBounds_toArray, List.set_cons_zero, List.set_cons_succ]
      refine takeV 9 (.int .i64 5) rfl (by kernel_rfl) (by kernel_rfl) (by kernel_rfl) (fun _ _ _ h => h) (by rfl) (fun w h => by have hc := h.c1; go_simp) hH ?_
      simp only [Act.put, List.setIfInBounds_toArray, List.set_cons_zero, List.set_cons_succ]
      refine takeV 10 (.pointer (some ⟨w.heap.size + 1 + 1, 20, none⟩)) rfl (by kernel_rfl) (by kernel_rfl) (by kernel_rfl) (fun _ _ _ h => h) (by rfl) (fun w _ => by go_simp) hH ?_
      simp only [Act.put, List.setIfInBounds_toArray, List.set_cons_zero, List.set_cons_succ]
      refine takeN 11 zp (w.heap.size + 1 + 1) 20 rfl (by kernel_rfl) (by kernel_rfl) (by kernel_rfl) (fun _ _ _ h => h) (by rfl) rfl rfl (fun _ h => h.lp.rows 5 zp hzp) hH ?_
      simp only [Act.put, List.setIfInBounds_toArray, List.set_cons_zero, List.set_cons_succ]
      refine step1 7 (by kernel_rfl) rfl (fun K hK => ?_)
      rw [if_pos (by rfl)]
      go_simp
      refine Calls.mono (squared_num zk 20 bk (by decide) _) ?_
      rintro e w1 ⟨⟨u, rfl, hu, hup⟩, hg1⟩
      dsimp only
      refine hK.out _ _ (hH.grown hg1) (fun hH1 => ?_)
      clear hK K
      refine step1 12 (by kernel_rfl) rfl (fun K hK => ?_)
      rw [if_pos (by rfl)]
      go_simp
      refine Calls.mono (times_num u zp hu bp _) ?_
      rintro e w2 ⟨⟨t, rfl, ht, htp⟩, hg2⟩
      dsimp only
      refine hK.out _ _ (hH1.grown hg2) (fun hH2 => ?_)
      clear hK K
      refine takeV 13 (.pointer (some ⟨w.heap.size + 1 + 1, 24, none⟩)) rfl (by kernel_rfl) (by kernel_rfl) (by kernel_rfl) (fun _ _ _ h => h) (by rfl) (fun w _ => by go_simp) hH2 ?_
      simp only [Act.put, List.setIfInBounds_toArray, List.set_cons_zero, List.set_cons_succ]
      refine step1 14 (by kernel_rfl) rfl (fun K hK => ?_)
      refine storeN t (w.heap.size + 1 + 1) 24 rfl (by rfl) rfl rfl (hH2.lp.there4 24 (by decide)) (fun w3 hw3 => ?_)
      simp only [Act.put]
      have hP := hH2.lp.push t (by omega : zs.length = 5 + 1) (by decide) hw3
      refine hK.out _ _ (hH2.stored (by omega) hw3) (fun _ => ?_)
      clear hK K
      refine wpAnyH_done (by kernel_rfl) ?_ _
      refine NoPanic.normal ?_
      have hpw := pw_step ek ep hup htp
      rw [show EX.getD 5 0 * 2 ^ 20 + EX.getD 5 0 = EX.getD (5 + 1) 0 from by decide +kernel] at hpw
      have hzz := Hid.of (zs_push hz t (by omega : zs.length = 5 + 1) ht hpw)
      clear hS hH hH1 hH2 hz hL ek ep hup htp hg1 hg2 hw3 hpw
      go_wp2
      go_roundw
      case rel => exact ⟨6, zs ++ [t], rfl, by decide, by simp; omega, hzz.out, hP⟩
      case measure => simp [intOf]
    · -- round 6
      obtain ⟨zk, hzk⟩ : ∃ z, zs[6]? = some z := ⟨_, List.getElem?_eq_getElem (by omega)⟩
      obtain ⟨zp, hzp⟩ : ∃ z, zs[4]? = some z := ⟨_, List.getElem?_eq_getElem (by omega)⟩
      obtain ⟨bk, ek⟩ := hz 6 zk hzk
      obtain ⟨bp, ep⟩ := hz 4 zp hzp
      have rk := hL.rows 6 zk hzk
      have hS : Sx w (w.heap.size + 1 + 1) (w.heap.size + 1) zs wr.heap.size 10 4 (wr.alloc (Obj.cells #[Value.int IntKind.i64 10, Value.int IntKind.i64 4] 59)).drew := Sx.start hL 10 4 59
      clear rk
      have hix : ∀ w : World, (Instr.index 60 (Value.agg #[Value.int IntKind.i64 1, Value.int IntKind.i64 0, Value.int IntKind.i64 2, Value.int IntKind.i64 1, Value.int IntKind.i64 1, Value.int IntKind.i64 0, Value.int IntKind.i64 5, Value.int IntKind.i64 3, Value.int IntKind.i64 10, Value.int IntKind.i64 4, Value.int IntKind.i64 20, Value.int IntKind.i64 5, Value.int IntKind.i64 10, Value.int IntKind.i64 4, Value.int IntKind.i64 50, Value.int IntKind.i64 7, Value.int IntKind.i64 100, Value.int IntKind.i64 8, Value.int IntKind.i64 50, Value.int IntKind.i64 7]) (Value.int IntKind.i64 6)).run Tryd.prog w = .ok (Value.agg #[Value.int IntKind.i64 10, Value.int IntKind.i64 4]) w := fun _ => by kernel_rfl
      go_wp2
      clear hix
      refine wp_region_noPanic ?_
      refine wp_region_held_drew (S := Sx w (w.heap.size + 1 + 1) (w.heap.size + 1) zs wr.heap.size 10 4) (by kernel_rfl) hS (fun hH => ?_)
      refine takeV 0 (.int .i64 6) rfl (by kernel_rfl) (by kernel_rfl) (by kernel_rfl) (fun _ _ _ h => h) (by rfl) (fun w _ => rfl) hH ?_
      simp only [Act.put, List.setIfInBounds_toArray, List.set_cons_zero, List.set_cons_succ]
      refine takeV 1 (.int .i64 7) rfl (by kernel_rfl) (by kernel_rfl) (by kernel_rfl) (fun _ _ _ h => h) (by rfl) (fun w _ => by go_simp; rfl) hH ?_
      simp only [Act.put, List.setIfInBounds_toArray, List.set_cons_zero, List.set_cons_succ]
      refine takeV 2 (.int .i64 6) rfl (by kernel_rfl) (by kernel_rfl) (by kernel_rfl) (fun _ _ _ h => h) (by rfl) (fun w _ => rfl) hH ?_
      simp only [Act.put, List.setIfInBounds_toArray, List.set_cons_zero, List.set_cons_succ]
      refine takeV 3 (.pointer (some ⟨w.heap.size + 1 + 1, 24, none⟩)) rfl (by kernel_rfl) (by kernel_rfl) (by kernel_rfl) (fun _ _ _ h => h) (by rfl) (fun w _ => by go_simp) hH ?_
      simp only [Act.put, List.setIfInBounds_toArray, List.set_cons_zero, List.set_cons_succ]
      refine takeN 4 zk (w.heap.size + 1 + 1) 24 rfl (by kernel_rfl) (by kernel_rfl) (by kernel_rfl) (fun _ _ _ h => h) (by rfl) rfl rfl (fun _ h => h.lp.rows 6 zk hzk) hH ?_
      simp only [Act.put, List.setIfInBounds_toArray, List.set_cons_zero, List.set_cons_succ]
      refine takeV 5 (.pointer (some ⟨wr.heap.size, 0, none⟩)) rfl (by kernel_rfl) (by kernel_rfl) (by kernel_rfl) (fun _ _ _ h => h) (by rfl) (fun w _ => by go_simp) hH ?_
      simp only [Act.put, List.setIfInBounds_toArray, List.set_cons_zero, List.set_cons_succ]
      refine takeV 6 (.int .i64 10) rfl (by kernel_rfl) (by kernel_rfl) (by kernel_rfl) (fun _ _ _ h => h) (by rfl) (fun w h => by have hc := h.c0; go_simp) hH ?_
      simp only [Act.put, List.setIfInBounds_toArray, List.set_cons_zero, List.set_cons_succ]
      refine takeV 8 (.pointer (some ⟨wr.heap.size, 1, none⟩)) rfl (by kernel_rfl) (by kernel_rfl) (by kernel_rfl) (fun _ _ _ h => h) (by rfl) (fun w _ => by go_simp) hH ?_
      simp only [Act.put, List.setIfInBounds_toArray, List.set_cons_zero, List.set_cons_succ]
      refine takeV 9 (.int .i64 4) rfl (by kernel_rfl) (by kernel_rfl) (by kernel_rfl) (fun _ _ _ h => h) (by rfl) (fun w h => by have hc := h.c1; go_simp) hH ?_
      simp only [Act.put, List.setIfInBounds_toArray, List.set_cons_zero, List.set_cons_succ]
      refine takeV 10 (.pointer (some ⟨w.heap.size + 1 + 1, 16, none⟩)) rfl (by kernel_rfl) (by kernel_rfl) (by kernel_rfl) (fun _ _ _ h => h) (by rfl) (fun w _ => by go_simp) hH ?_
      simp only [Act.put, List.setIfInBounds_toArray, List.set_cons_zero, List.set_cons_succ]
      refine takeN 11 zp (w.heap.size + 1 + 1) 16 rfl (by kernel_rfl) (by kernel_rfl) (by kernel_rfl) (fun _ _ _ h => h) (by rfl) rfl rfl (fun _ h => h.lp.rows 4 zp hzp) hH ?_
      simp only [Act.put, List.setIfInBounds_toArray, List.set_cons_zero, List.set_cons_succ]
      refine step1 7 (by kernel_rfl) rfl (fun K hK => ?_)
      rw [if_pos (by rfl)]
      go_simp
      refine Calls.mono (squared_num zk 10 bk (by decide) _) ?_
      rintro e w1 ⟨⟨u, rfl, hu, hup⟩, hg1⟩
      dsimp only
      refine hK.out _ _ (hH.grown hg1) (fun hH1 => ?_)
      clear hK K
      refine step1 12 (by kernel_rfl) rfl (fun K hK => ?_)
      rw [if_pos (by rfl)]
      go_simp
      refine Calls.mono (times_num u zp hu bp _) ?_
      rintro e w2 ⟨⟨t, rfl, ht, htp⟩, hg2⟩
      dsimp only
      refine hK.out _ _ (hH1.grown hg2) (fun hH2 => ?_)
      clear hK K
      refine takeV 13 (.pointer (some ⟨w.heap.size + 1 + 1, 28, none⟩)) rfl (by kernel_rfl) (by kernel_rfl) (by kernel_rfl) (fun _ _ _ h => h) (by rfl) (fun w _ => by go_simp) hH2 ?_
      simp only [Act.put, List.setIfInBounds_toArray, List.set_cons_zero, List.set_cons_succ]
      refine step1 14 (by kernel_rfl) rfl (fun K hK => ?_)
      refine storeN t (w.heap.size + 1 + 1) 28 rfl (by rfl) rfl rfl (hH2.lp.there4 28 (by decide)) (fun w3 hw3 => ?_)
      simp only [Act.put]
      have hP := hH2.lp.push t (by omega : zs.length = 6 + 1) (by decide) hw3
      refine hK.out _ _ (hH2.stored (by omega) hw3) (fun _ => ?_)
      clear hK K
      refine wpAnyH_done (by kernel_rfl) ?_ _
      refine NoPanic.normal ?_
      have hpw := pw_step ek ep hup htp
      rw [show EX.getD 6 0 * 2 ^ 10 + EX.getD 4 0 = EX.getD (6 + 1) 0 from by decide +kernel] at hpw
      have hzz := Hid.of (zs_push hz t (by omega : zs.length = 6 + 1) ht hpw)
      clear hS hH hH1 hH2 hz hL ek ep hup htp hg1 hg2 hw3 hpw
      go_wp2
      go_roundw
      case rel => exact ⟨7, zs ++ [t], rfl, by decide, by simp; omega, hzz.out, hP⟩
      case measure => simp [intOf]
    · -- round 7
      obtain ⟨zk, hzk⟩ : ∃ z, zs[7]? = some z := ⟨_, List.getElem?_eq_getElem (by omega)⟩
      obtain ⟨zp, hzp⟩ : ∃ z, zs[7]? = some z := ⟨_, List.getElem?_eq_getElem (by omega)⟩
      obtain ⟨bk, ek⟩ := hz 7 zk hzk
      obtain ⟨bp, ep⟩ := hz 7 zp hzp
      have rk := hL.rows 7 zk hzk
      have hS : Sx w (w.heap.size + 1 + 1) (w.heap.size + 1) zs wr.heap.size 50 7 (wr.alloc (Obj.cells #[Value.int IntKind.i64 50, Value.int IntKind.i64 7] 59)).drew := Sx.start hL 50 7 59
      clear rk
      have hix : ∀ w : World, (Instr.index 60 (Value.agg #[Value.int IntKind.i64 1, Value.int IntKind.i64 0, Value.int IntKind.i64 2, Value.int IntKind.i64 1, Value.int IntKind.i64 1, Value.int IntKind.i64 0, Value.int IntKind.i64 5, Value.int IntKind.i64 3, Value.int IntKind.i64 10, Value.int IntKind.i64 4, Value.int IntKind.i64 20, Value.int IntKind.i64 5, Value.int IntKind.i64 10, Value.int IntKind.i64 4, Value.int IntKind.i64 50, Value.int IntKind.i64 7, Value.int IntKind.i64 100, Value.int IntKind.i64 8, Value.int IntKind.i64 50, Value.int IntKind.i64 7]) (Value.int IntKind.i64 7)).run Tryd.prog w = .ok (Value.agg #[Value.int IntKind.i64 50, Value.int IntKind.i64 7]) w := fun _ => by kernel_rfl
      go_wp2
      clear hix
      refine wp_region_noPanic ?_
      refine wp_region_held_drew (S := Sx w (w.heap.size + 1 + 1) (w.heap.size + 1) zs wr.heap.size 50 7) (by kernel_rfl) hS (fun hH => ?_)
      refine takeV 0 (.int .i64 7) rfl (by kernel_rfl) (by kernel_rfl) (by kernel_rfl) (fun _ _ _ h => h) (by rfl) (fun w _ => rfl) hH ?_
      simp only [Act.put, List.setIfInBounds_toArray, List.set_cons_zero, List.set_cons_succ]
      refine takeV 1 (.int .i64 8) rfl (by kernel_rfl) (by kernel_rfl) (by kernel_rfl) (fun _ _ _ h => h) (by rfl) (fun w _ => by go_simp; rfl) hH ?_
      simp only [Act.put, List.setIfInBounds_toArray, List.set_cons_zero, List.set_cons_succ]
      refine takeV 2 (.int .i64 7) rfl (by kernel_rfl) (by kernel_rfl) (by kernel_rfl) (fun _ _ _ h => h) (by rfl) (fun w _ => rfl) hH ?_
      simp only [Act.put, List.setIfInBounds_toArray, List.set_cons_zero, List.set_cons_succ]
      refine takeV 3 (.pointer (some ⟨w.heap.size + 1 + 1, 28, none⟩)) rfl (by kernel_rfl) (by kernel_rfl) (by kernel_rfl) (fun _ _ _ h => h) (by rfl) (fun w _ => by go_simp) hH ?_
      simp only [Act.put, List.setIfInBounds_toArray, List.set_cons_zero, List.set_cons_succ]
      refine takeN 4 zk (w.heap.size + 1 + 1) 28 rfl (by kernel_rfl) (by kernel_rfl) (by kernel_rfl) (fun _ _ _ h => h) (by rfl) rfl rfl (fun _ h => h.lp.rows 7 zk hzk) hH ?_
      simp only [Act.put, List.setIfInBounds_toArray, List.set_cons_zero, List.set_cons_succ]
      refine takeV 5 (.pointer (some ⟨wr.heap.size, 0, none⟩)) rfl (by kernel_rfl) (by kernel_rfl) (by kernel_rfl) (fun _ _ _ h => h) (by rfl) (fun w _ => by go_simp) hH ?_
      simp only [Act.put, List.setIfInBounds_toArray, List.set_cons_zero, List.set_cons_succ]
      refine takeV 6 (.int .i64 50) rfl (by kernel_rfl) (by kernel_rfl) (by kernel_rfl) (fun _ _ _ h => h) (by rfl) (fun w h => by have hc := h.c0; go_simp) hH ?_
      simp only [Act.put, List.setIfInBounds_toArray, List.set_cons_zero, List.set_cons_succ]
      refine takeV 8 (.pointer (some ⟨wr.heap.size, 1, none⟩)) rfl (by kernel_rfl) (by kernel_rfl) (by kernel_rfl) (fun _ _ _ h => h) (by rfl) (fun w _ => by go_simp) hH ?_
      simp only [Act.put, List.setIfInBounds_toArray, List.set_cons_zero, List.set_cons_succ]
      refine takeV 9 (.int .i64 7) rfl (by kernel_rfl) (by kernel_rfl) (by kernel_rfl) (fun _ _ _ h => h) (by rfl) (fun w h => by have hc := h.c1; go_simp) hH ?_
      simp only [Act.put, List.setIfInBounds_toArray, List.set_cons_zero, List.set_cons_succ]
      refine takeV 10 (.pointer (some ⟨w.heap.size + 1 + 1, 28, none⟩)) rfl (by kernel_rfl) (by kernel_rfl) (by kernel_rfl) (fun _ _ _ h => h) (by rfl) (fun w _ => by go_simp) hH ?_
      simp only [Act.put, List.setIfInBounds_toArray, List.set_cons_zero, List.set_cons_succ]
      refine takeN 11 zp (w.heap.size + 1 + 1) 28 rfl (by kernel_rfl) (by kernel_rfl) (by kernel_rfl) (fun _ _ _ h => h) (by rfl) rfl rfl (fun _ h => h.lp.rows 7 zp hzp) hH ?_
      simp only [Act.put, List.setIfInBounds_toArray, List.set_cons_zero, List.set_cons_succ]
      refine step1 7 (by kernel_rfl) rfl (fun K hK => ?_)
      rw [if_pos (by rfl)]
      go_simp
      refine Calls.mono (squared_num zk 50 bk (by decide) _) ?_
      rintro e w1 ⟨⟨u, rfl, hu, hup⟩, hg1⟩
      dsimp only
      refine hK.out _ _ (hH.grown hg1) (fun hH1 => ?_)
      clear hK K
      refine step1 12 (by kernel_rfl) rfl (fun K hK => ?_)
      rw [if_pos (by rfl)]
      go_simp
      refine Calls.mono (times_num u zp hu bp _) ?_
      rintro e w2 ⟨⟨t, rfl, ht, htp⟩, hg2⟩
      dsimp only
      refine hK.out _ _ (hH1.grown hg2) (fun hH2 => ?_)
      clear hK K
      refine takeV 13 (.pointer (some ⟨w.heap.size + 1 + 1, 32, none⟩)) rfl (by kernel_rfl) (by kernel_rfl) (by kernel_rfl) (fun _ _ _ h => h) (by rfl) (fun w _ => by go_simp) hH2 ?_
      simp only [Act.put, List.setIfInBounds_toArray, List.set_cons_zero, List.set_cons_succ]
      refine step1 14 (by kernel_rfl) rfl (fun K hK => ?_)
      refine storeN t (w.heap.size + 1 + 1) 32 rfl (by rfl) rfl rfl (hH2.lp.there4 32 (by decide)) (fun w3 hw3 => ?_)
      simp only [Act.put]
      have hP := hH2.lp.push t (by omega : zs.length = 7 + 1) (by decide) hw3
      refine hK.out _ _ (hH2.stored (by omega) hw3) (fun _ => ?_)
      clear hK K
      refine wpAnyH_done (by kernel_rfl) ?_ _
      refine NoPanic.normal ?_
      have hpw := pw_step ek ep hup htp
      rw [show EX.getD 7 0 * 2 ^ 50 + EX.getD 7 0 = EX.getD (7 + 1) 0 from by decide +kernel] at hpw
      have hzz := Hid.of (zs_push hz t (by omega : zs.length = 7 + 1) ht hpw)
      clear hS hH hH1 hH2 hz hL ek ep hup htp hg1 hg2 hw3 hpw
      go_wp2
      go_roundw
      case rel => exact ⟨8, zs ++ [t], rfl, by decide, by simp; omega, hzz.out, hP⟩
      case measure => simp [intOf]
    · -- round 8
      obtain ⟨zk, hzk⟩ : ∃ z, zs[8]? = some z := ⟨_, List.getElem?_eq_getElem (by omega)⟩
      obtain ⟨zp, hzp⟩ : ∃ z, zs[8]? = some z := ⟨_, List.getElem?_eq_getElem (by omega)⟩
      obtain ⟨bk, ek⟩ := hz 8 zk hzk
      obtain ⟨bp, ep⟩ := hz 8 zp hzp
      have rk := hL.rows 8 zk hzk
      have hS : Sx w (w.heap.size + 1 + 1) (w.heap.size + 1) zs wr.heap.size 100 8 (wr.alloc (Obj.cells #[Value.int IntKind.i64 100, Value.int IntKind.i64 8] 59)).drew := Sx.start hL 100 8 59
      clear rk
      have hix : ∀ w : World, (Instr.index 60 (Value.agg #[Value.int IntKind.i64 1, Value.int IntKind.i64 0, Value.int IntKind.i64 2, Value.int IntKind.i64 1, Value.int IntKind.i64 1, Value.int IntKind.i64 0, Value.int IntKind.i64 5, Value.int IntKind.i64 3, Value.int IntKind.i64 10, Value.int IntKind.i64 4, Value.int IntKind.i64 20, Value.int IntKind.i64 5, Value.int IntKind.i64 10, Value.int IntKind.i64 4, Value.int IntKind.i64 50, Value.int IntKind.i64 7, Value.int IntKind.i64 100, Value.int IntKind.i64 8, Value.int IntKind.i64 50, Value.int IntKind.i64 7]) (Value.int IntKind.i64 8)).run Tryd.prog w = .ok (Value.agg #[Value.int IntKind.i64 100, Value.int IntKind.i64 8]) w := fun _ => by kernel_rfl
      go_wp2
      clear hix
      refine wp_region_noPanic ?_
      refine wp_region_held_drew (S := Sx w (w.heap.size + 1 + 1) (w.heap.size + 1) zs wr.heap.size 100 8) (by kernel_rfl) hS (fun hH => ?_)
      refine takeV 0 (.int .i64 8) rfl (by kernel_rfl) (by kernel_rfl) (by kernel_rfl) (fun _ _ _ h => h) (by rfl) (fun w _ => rfl) hH ?_
      simp only [Act.put, List.setIfInBounds_toArray, List.set_cons_zero, List.set_cons_succ]
      refine takeV 1 (.int .i64 9) rfl (by kernel_rfl) (by kernel_rfl) (by kernel_rfl) (fun _ _ _ h => h) (by rfl) (fun w _ => by go_simp; rfl) hH ?_
      simp only [Act.put, List.setIfInBounds_toArray, List.set_cons_zero, List.set_cons_succ]
      refine takeV 2 (.int .i64 8) rfl (by kernel_rfl) (by kernel_rfl) (by kernel_rfl) (fun _ _ _ h => h) (by rfl) (fun w _ => rfl) hH ?_
      simp only [Act.put, List.setIfInBounds_toArray, List.set_cons_zero, List.set_cons_succ]
      refine takeV 3 (.pointer (some ⟨w.heap.size + 1 + 1, 32, none⟩)) rfl (by kernel_rfl) (by kernel_rfl) (by kernel_rfl) (fun _ _ _ h => h) (by rfl) (fun w _ => by go_simp) hH ?_
      simp only [Act.put, List.setIfInBounds_toArray, List.set_cons_zero, List.set_cons_succ]
      refine takeN 4 zk (w.heap.size + 1 + 1) 32 rfl (by kernel_rfl) (by kernel_rfl) (by kernel_rfl) (fun _ _ _ h => h) (by rfl) rfl rfl (fun _ h => h.lp.rows 8 zk hzk) hH ?_
      simp only [Act.put, List.setIfInBounds_toArray, List.set_cons_zero, List.set_cons_succ]
      refine takeV 5 (.pointer (some ⟨wr.heap.size, 0, none⟩)) rfl (by kernel_rfl) (by kernel_rfl) (by kernel_rfl) (fun _ _ _ h => h) (by rfl) (fun w _ => by go_simp) hH ?_
      simp only [Act.put, List.setIfInBounds_toArray, List.set_cons_zero, List.set_cons_succ]
      refine takeV 6 (.int .i64 100) rfl (by kernel_rfl) (by kernel_rfl) (by kernel_rfl) (fun _ _ _ h => h) (by rfl) (fun w h => by have hc := h.c0; go_simp) hH ?_
      simp only [Act.put, List.setIfInBounds_toArray, List.set_cons_zero, List.set_cons_succ]
      refine takeV 8 (.pointer (some ⟨wr.heap.size, 1, none⟩)) rfl (by kernel_rfl) (by kernel_rfl) (by kernel_rfl) (fun _ _ _ h => h) (by rfl) (fun w _ => by go_simp) hH ?_
      simp only [Act.put, List.setIfInBounds_toArray, List.set_cons_zero, List.set_cons_succ]
      refine takeV 9 (.int .i64 8) rfl (by kernel_rfl) (by kernel_rfl) (by kernel_rfl) (fun _ _ _ h => h) (by rfl) (fun w h => by have hc := h.c1; go_simp) hH ?_
      simp only [Act.put, List.setIfInBounds_toArray, List.set_cons_zero, List.set_cons_succ]
      refine takeV 10 (.pointer (some ⟨w.heap.size + 1 + 1, 32, none⟩)) rfl (by kernel_rfl) (by kernel_rfl) (by kernel_rfl) (fun _ _ _ h => h) (by rfl) (fun w _ => by go_simp) hH ?_
      simp only [Act.put, List.setIfInBounds_toArray, List.set_cons_zero, List.set_cons_succ]
      refine takeN 11 zp (w.heap.size + 1 + 1) 32 rfl (by kernel_rfl) (by kernel_rfl) (by kernel_rfl) (fun _ _ _ h => h) (by rfl) rfl rfl (fun _ h => h.lp.rows 8 zp hzp) hH ?_
      simp only [Act.put, List.setIfInBounds_toArray, List.set_cons_zero, List.set_cons_succ]
      refine step1 7 (by kernel_rfl) rfl (fun K hK => ?_)
      rw [if_pos (by rfl)]
      go_simp
      refine Calls.mono (squared_num zk 100 bk (by decide) _) ?_
      rintro e w1 ⟨⟨u, rfl, hu, hup⟩, hg1⟩
      dsimp only
      refine hK.out _ _ (hH.grown hg1) (fun hH1 => ?_)
      clear hK K
      refine step1 12 (by kernel_rfl) rfl (fun K hK => ?_)
      rw [if_pos (by rfl)]
      go_simp
      refine Calls.mono (times_num u zp hu bp _) ?_
      rintro e w2 ⟨⟨t, rfl, ht, htp⟩, hg2⟩
      dsimp only
      refine hK.out _ _ (hH1.grown hg2) (fun hH2 => ?_)
      clear hK K
      refine takeV 13 (.pointer (some ⟨w.heap.size + 1 + 1, 36, none⟩)) rfl (by kernel_rfl) (by kernel_rfl) (by kernel_rfl) (fun _ _ _ h => h) (by rfl) (fun w _ => by go_simp) hH2 ?_
      simp only [Act.put, List.setIfInBounds_toArray, List.set_cons_zero, List.set_cons_succ]
      refine step1 14 (by kernel_rfl) rfl (fun K hK => ?_)
      refine storeN t (w.heap.size + 1 + 1) 36 rfl (by rfl) rfl rfl (hH2.lp.there4 36 (by decide)) (fun w3 hw3 => ?_)
      simp only [Act.put]
      have hP := hH2.lp.push t (by omega : zs.length = 8 + 1) (by decide) hw3
      refine hK.out _ _ (hH2.stored (by omega) hw3) (fun _ => ?_)
      clear hK K
      refine wpAnyH_done (by kernel_rfl) ?_ _
      refine NoPanic.normal ?_
      have hpw := pw_step ek ep hup htp
      rw [show EX.getD 8 0 * 2 ^ 100 + EX.getD 8 0 = EX.getD (8 + 1) 0 from by decide +kernel] at hpw
      have hzz := Hid.of (zs_push hz t (by omega : zs.length = 8 + 1) ht hpw)
      clear hS hH hH1 hH2 hz hL ek ep hup htp hg1 hg2 hw3 hpw
      go_wp2
      go_roundw
      case rel => exact ⟨9, zs ++ [t], rfl, by decide, by simp; omega, hzz.out, hP⟩
      case measure => simp [intOf]
    · -- round 9
      obtain ⟨zk, hzk⟩ : ∃ z, zs[9]? = some z := ⟨_, List.getElem?_eq_getElem (by omega)⟩
      obtain ⟨zp, hzp⟩ : ∃ z, zs[7]? = some z := ⟨_, List.getElem?_eq_getElem (by omega)⟩
      obtain ⟨bk, ek⟩ := hz 9 zk hzk
      obtain ⟨bp, ep⟩ := hz 7 zp hzp
      have rk := hL.rows 9 zk hzk
      have hS : Sx w (w.heap.size + 1 + 1) (w.heap.size + 1) zs wr.heap.size 50 7 (wr.alloc (Obj.cells #[Value.int IntKind.i64 50, Value.int IntKind.i64 7] 59)).drew := Sx.start hL 50 7 59
      clear rk
      have hix : ∀ w : World, (Instr.index 60 (Value.agg #[Value.int IntKind.i64 1, Value.int IntKind.i64 0, Value.int IntKind.i64 2, Value.int IntKind.i64 1, Value.int IntKind.i64 1, Value.int IntKind.i64 0, Value.int IntKind.i64 5, Value.int IntKind.i64 3, Value.int IntKind.i64 10, Value.int IntKind.i64 4, Value.int IntKind.i64 20, Value.int IntKind.i64 5, Value.int IntKind.i64 10, Value.int IntKind.i64 4, Value.int IntKind.i64 50, Value.int IntKind.i64 7, Value.int IntKind.i64 100, Value.int IntKind.i64 8, Value.int IntKind.i64 50, Value.int IntKind.i64 7]) (Value.int IntKind.i64 9)).run Tryd.prog w = .ok (Value.agg #[Value.int IntKind.i64 50, Value.int IntKind.i64 7]) w := fun _ => by kernel_rfl
      go_wp2
      clear hix
      refine wp_region_noPanic ?_
      refine wp_region_held_drew (S := Sx w (w.heap.size + 1 + 1) (w.heap.size + 1) zs wr.heap.size 50 7) (by kernel_rfl) hS (fun hH => ?_)
      refine takeV 0 (.int .i64 9) rfl (by kernel_rfl) (by kernel_rfl) (by kernel_rfl) (fun _ _ _ h => h) (by rfl) (fun w _ => rfl) hH ?_
      simp only [Act.put, List.setIfInBounds_toArray, List.set_cons_zero, List.set_cons_succ]
      refine takeV 1 (.int .i64 10) rfl (by kernel_rfl) (by kernel_rfl) (by kernel_rfl) (fun _ _ _ h => h) (by rfl) (fun w _ => by go_simp; rfl) hH ?_
      simp only [Act.put, List.setIfInBounds_toArray, List.set_cons_zero, List.set_cons_succ]
      refine takeV 2 (.int .i64 9) rfl (by kernel_rfl) (by kernel_rfl) (by kernel_rfl) (fun _ _ _ h => h) (by rfl) (fun w _ => rfl) hH ?_
      simp only [Act.put, List.setIfInBounds_toArray, List.set_cons_zero, List.set_cons_succ]
      refine takeV 3 (.pointer (some ⟨w.heap.size + 1 + 1, 36, none⟩)) rfl (by kernel_rfl) (by kernel_rfl) (by kernel_rfl) (fun _ _ _ h => h) (by rfl) (fun w _ => by go_simp) hH ?_
      simp only [Act.put, List.setIfInBounds_toArray, List.set_cons_zero, List.set_cons_succ]
      refine takeN 4 zk (w.heap.size + 1 + 1) 36 rfl (by kernel_rfl) (by kernel_rfl) (by kernel_rfl) (fun _ _ _ h => h) (by rfl) rfl rfl (fun _ h => h.lp.rows 9 zk hzk) hH ?_
      simp only [Act.put, List.setIfInBounds_toArray, List.set_cons_zero, List.set_cons_succ]
      refine takeV 5 (.pointer (some ⟨wr.heap.size, 0, none⟩)) rfl (by kernel_rfl) (by kernel_rfl) (by kernel_rfl) (fun _ _ _ h => h) (by rfl) (fun w _ => by go_simp) hH ?_
      simp only [Act.put, List.setIfInBounds_toArray, List.set_cons_zero, List.set_cons_succ]
      refine takeV 6 (.int .i64 50) rfl (by kernel_rfl) (by kernel_rfl) (by kernel_rfl) (fun _ _ _ h => h) (by rfl) (fun w h => by have hc := h.c0; go_simp) hH ?_
      simp only [Act.put, List.setIfInBounds_toArray, List.set_cons_zero, List.set_cons_succ]
      refine takeV 8 (.pointer (some ⟨wr.heap.size, 1, none⟩)) rfl (by kernel_rfl) (by kernel_rfl) (by kernel_rfl) (fun _ _ _ h => h) (by rfl) (fun w _ => by go_simp) hH ?_
      simp only [Act.put, List.setIfInBounds_toArray, List.set_cons_zero, List.set_cons_succ]
      refine takeV 9 (.int .i64 7) rfl (by kernel_rfl) (by kernel_rfl) (by kernel_rfl) (fun _ _ _ h => h) (by rfl) (fun w h => by have hc := h.c1; go_simp) hH ?_
      simp only [Act.put, List.setIfInBounds_toArray, List.set_cons_zero, List.set_cons_succ]
      refine takeV 10 (.pointer (some ⟨w.heap.size + 1 + 1, 28, none⟩)) rfl (by kernel_rfl) (by kernel_rfl) (by kernel_rfl) (fun _ _ _ h => h) (by rfl) (fun w _ => by go_simp) hH ?_
      simp only [Act.put, List.setIfInBounds_toArray, List.set_cons_zero, List.set_cons_succ]
      refine takeN 11 zp (w.heap.size + 1 + 1) 28 rfl (by kernel_rfl) (by kernel_rfl) (by kernel_rfl) (fun _ _ _ h => h) (by rfl) rfl rfl (fun _ h => h.lp.rows 7 zp hzp) hH ?_
      simp only [Act.put, List.setIfInBounds_toArray, List.set_cons_zero, List.set_cons_succ]
      refine step1 7 (by kernel_rfl) rfl (fun K hK => ?_)
      rw [if_pos (by rfl)]
      go_simp
      refine Calls.mono (squared_num zk 50 bk (by decide) _) ?_
      rintro e w1 ⟨⟨u, rfl, hu, hup⟩, hg1⟩
      dsimp only
      refine hK.out _ _ (hH.grown hg1) (fun hH1 => ?_)
      clear hK K
      refine step1 12 (by kernel_rfl) rfl (fun K hK => ?_)
      rw [if_pos (by rfl)]
      go_simp
      refine Calls.mono (times_num u zp hu bp _) ?_
      rintro e w2 ⟨⟨t, rfl, ht, htp⟩, hg2⟩
      dsimp only
      refine hK.out _ _ (hH1.grown hg2) (fun hH2 => ?_)
      clear hK K
      refine takeV 13 (.pointer (some ⟨w.heap.size + 1 + 1, 40, none⟩)) rfl (by kernel_rfl) (by kernel_rfl) (by kernel_rfl) (fun _ _ _ h => h) (by rfl) (fun w _ => by go_simp) hH2 ?_
      simp only [Act.put, List.setIfInBounds_toArray, List.set_cons_zero, List.set_cons_succ]
      refine step1 14 (by kernel_rfl) rfl (fun K hK => ?_)
      refine storeN t (w.heap.size + 1 + 1) 40 rfl (by rfl) rfl rfl (hH2.lp.there4 40 (by decide)) (fun w3 hw3 => ?_)
      simp only [Act.put]
      have hP := hH2.lp.push t (by omega : zs.length = 9 + 1) (by decide) hw3
      refine hK.out _ _ (hH2.stored (by omega) hw3) (fun _ => ?_)
      clear hK K
      refine wpAnyH_done (by kernel_rfl) ?_ _
      refine NoPanic.normal ?_
      have hpw := pw_step ek ep hup htp
      rw [show EX.getD 9 0 * 2 ^ 50 + EX.getD 7 0 = EX.getD (9 + 1) 0 from by decide +kernel] at hpw
      have hzz := Hid.of (zs_push hz t (by omega : zs.length = 9 + 1) ht hpw)
      clear hS hH hH1 hH2 hz hL ek ep hup htp hg1 hg2 hw3 hpw
      go_wp2
      go_roundw
      case rel => exact ⟨10, zs ++ [t], rfl, by decide, by simp; omega, hzz.out, hP⟩
      case measure => simp [intOf]
end Go.Proofs.YtfnbodpbdfeiiaaDoor
