import Derived.Test.YteijccjdejjbjaaDoorRing1
namespace Go.Proofs.YteijccjdejjbjaaDoor
open Go.RowKit Go.Shelf ScalarNum

theorem info16 : (Tryd.prog.info? 46).map (·.size) = some 16 := by kernel_rfl
theorem wpList_store_new16 {ops : Array Oper} {Q : Exit → Act → World → Prop} {a : Act} {w : World} {rest : List Oper} {o : Oper} {x y : Operand} {c : Array Value} (hc : 16 ≤ c.size) (hgd : o.guard = none) (ho : o.op = .store 46 x y)
    (hx : a.eval x = .pointer (some ⟨w.heap.size, 0, none⟩)) (hy : a.eval y = .agg (yl 16 L).toArray)
    (h : ∀ w2, Grown w w2 → w2.rangeAt w.heap.size 0 (yl 16 L) → wpList Tryd.prog ops Q rest (a.put o.dst undef) w2) :
    wpList Tryd.prog ops Q (o :: rest) a (w.alloc (.cells c 46)) := by
  have ht := there_alloc_new w 46 c 16 hc
  refine wpList_store_mid hgd 46 x y ho w.heap.size 0 (yl 16 L).toArray hx hy (by rw [show (yl 16 L).toArray.size = 16 from by rw [List.size_toArray, yl_length]]; exact ht) (by rw [List.size_toArray, yl_length]; exact info16) (all_oneCell_toArray (yl_one 16 L)) ?_
  exact h _ (grown_setCells (Nat.le_refl _) _ _ (Grown.alloc (Grown.refl _) _ _)) (World.rangeAt_setCells_same _ _ _ (yl 16 L) (by rw [yl_length]; exact ht))
theorem zero_mid (i : Nat) (h1 : 16 ≤ i) (h2 : i < 31) : dg 256 L i = 0 := by
  have h : ∀ j, j < 31 → 16 ≤ j → dg 256 L j = 0 := by decide
  exact h i h2 h1
theorem canon_add0 (a : Nat) : sadd a 0 = sred a := rfl
theorem canon_addL (a : Nat) : sadd a L = sred a := by unfold sadd sred; rw [Nat.add_mod_right]
theorem sred_same {a : Nat} (h : a < L) : sred a = a := Nat.mod_eq_of_lt h
theorem sred_other {a : Nat} (h : ¬ a < L) : ¬ sred a = a := fun e => h (by rw [← e]; exact modL_lt a)

set_option maxRecDepth 100000 in
set_option maxHeartbeats 4000000 in
theorem canon_walk1 (a : Nat) (ha : a < M) (h0 : Hid (a < L)) (w : World) (hT : Tab w) : Calls Tryd.prog 10 #[yv 32 a] w fun e w' => e = .returned (.bool true) ∧ Grown w w' := by
  obtain ⟨hE9, hW9⟩ := params1 w a
  rw [yv]
  go_enter Tryd.func10, Tryd.ntmps10
  go_wp2_with fail
  generalize (w.alloc (.cells (yl 32 a).toArray 23)) = W0 at *
  refine Calls.mono (Order_num _ (hT.grown hW9)) ?_
  rintro e w1 ⟨rfl, g1⟩
  dsimp only
  have H1 := Hid.of (And.intro (hE9.grown g1) (grown_trans hW9 g1))
  clear hE9 hW9 g1
  go_wp2_with (with_reducible show wpList _ _ _ ({ dst := _, op := Op.store 23 _ _, type := _, pos := _, after := _, guard := _ } :: _) _ _; refine Shut.out ?_)
  show wpList _ _ _ _ _ _
  refine wpList_store_new L (by simp) rfl rfl rfl rfl (fun w2 hg2 hr2 ht2 => ?_)
  simp only [Act.put]
  apply wpList_nil
  have H2 := Hid.of (And.intro ((H1.out.1.grown hg2).cons hr2) (grown_trans H1.out.2 hg2))
  clear H1 hg2 hr2 ht2
  generalize w1.heap.size = bO at *
  go_wp2_with (with_reducible show wpList _ _ _ ({ dst := _, op := Op.store 46 _ _, type := _, pos := _, after := _, guard := _ } :: _) _ _; refine Shut.out ?_)
  show wpList _ _ _ _ _ _
  refine wpList_store_new16 (by simp) rfl rfl rfl (by kernel_rfl) (fun w3 hg3 hr3 => ?_)
  simp only [Act.put]
  apply wpList_nil
  have hE0 := H2.out.1.grown hg3
  have hW0 := grown_trans H2.out.2 hg3
  clear H2 hg3
  generalize w2.heap.size = b6 at *
  have cl : ∀ i, i < 32 → w3.cell? ⟨bO, i, none⟩ = some (.int .u8 (dg 256 L i : Nat)) := by
    intro i hi
    have := hE0 (bO, L) (.head _) i _ (yl_get 32 L i hi); rwa [Nat.zero_add] at this
  have c6 : ∀ i, i < 16 → w3.cell? ⟨b6, i, none⟩ = some (.int .u8 (dg 256 L i : Nat)) := by
    intro i hi
    have := hr3 i _ (yl_get 16 L i hi); rwa [Nat.zero_add] at this
  have CL := Hid.of (And.intro cl c6)
  have hE1 := Hid.of hE0
  have hW1 := Hid.of hW0
  clear cl c6 hr3 hE0 hW0
  go_wp2
  go_loopw [5] (fun v5 wr => ∃ i : Nat, v5 = .int .i64 (i : Int) ∧ i ≤ 32 ∧ wr = w3) (fun v5 _ => 32 - (intOf v5).toNat)
  case atStart => exact ⟨0, rfl, by decide, rfl⟩
  case round =>
    obtain ⟨i, rfl, hi, rfl⟩ := hrel
    by_cases hlt : i < 32
    · have c1 := CL.out.1 i hlt
      have b1 : (i : Int) < 32 := Int.ofNat_lt.2 hlt
      by_cases h1 : i < 16
      · have c2 := CL.out.2 i h1
        have b2 : (i : Int) < 16 := Int.ofNat_lt.2 h1
        have b3 : ¬ (i : Int) = 31 := by omega
        generalize dg 256 L i = d at *
        go_wp2
        go_roundw
        case rel => exact ⟨i + 1, by go_num, by omega, by first | rfl | trivial⟩
        case measure => simp [intOf]; omega
      · have b2 : ¬ (i : Int) < 16 := fun h => h1 (Int.ofNat_lt.1 h)
        by_cases h2 : i = 31
        · subst h2
          rw [show dg 256 L 31 = 16 from by decide] at c1
          go_wp2
          go_roundw
          case rel => exact ⟨32, rfl, by omega, by first | rfl | trivial⟩
          case measure => simp [intOf]
        · have b3 : ¬ (i : Int) = 31 := by omega
          rw [zero_mid i (by omega) (by omega)] at c1
          go_wp2
          go_roundw
          case rel => exact ⟨i + 1, by go_num, by omega, by first | rfl | trivial⟩
          case measure => simp [intOf]; omega
    · have hi32 : i = 32 := by omega
      subst hi32
      have hE0 := hE1.out
      have hW0 := hW1.out
      clear hE1 hW1 CL hi hlt
      go_wp2_with (with_reducible show wpList _ _ _ ({ dst := _, op := Op.load 23 _, type := _, pos := _, after := _, guard := _ } :: _) _ _; refine Shut.out ?_)
      show wpList _ _ _ _ _ _
      refine wpList_load32 rfl _ rfl _ rfl (a) (hE0 (w.heap.size, a) (.tail _ (.head _))) ?_
      simp only [Act.put, List.setIfInBounds_toArray, List.set_cons_zero, List.set_cons_succ]
      go_wp2_with fail
      refine Calls.mono (cut_num (a) ha _ (hT.grown hW0)) ?_
      rintro e w1 ⟨rfl, hg1⟩
      dsimp only
      go_step
      have hE1 := hE0.grown hg1
      have hW1 := grown_trans hW0 hg1
      clear hE0 hW0 hg1
      go_wp2_with (with_reducible show wpList _ _ _ ({ dst := _, op := Op.store 23 _ _, type := _, pos := _, after := _, guard := _ } :: _) _ _; refine Shut.out ?_)
      show wpList _ _ _ _ _ _
      refine wpList_store_new (sred (a)) (by simp) rfl rfl rfl rfl (fun w2 hg2 hr2 _ => ?_)
      simp only [Act.put]
      have hE2 := (hE1.grown hg2).cons hr2
      have hW2 := grown_trans hW1 hg2
      clear hE1 hW1 hg2 hr2
      apply wpList_nil
      repeat ((fail_if_success (with_reducible show Code.wp _ (Code.region _ _ _) _ _ _)); go_step)
      refine wp_region_noPanic ?_
      refine wp_region_held_drew (S := fun w' => Holds [(w1.heap.size, sred (a)), (bO, L), (w.heap.size, a)] w' ∧ Grown w w') (by kernel_rfl) ⟨hE2, hW2⟩ (fun hH3 => ?_)
      clear hE2 hW2
      refine take32 0 (a) (w.heap.size) rfl (by kernel_rfl) (by kernel_rfl) (by kernel_rfl) (fun _ _ _ h => h) (by rfl) rfl rfl (fun _ h => h.1 (w.heap.size, a) (.tail _ (.tail _ (.head _)))) hH3 ?_
      simp only [Act.put, List.setIfInBounds_toArray, List.set_cons_zero, List.set_cons_succ]
      refine take32 2 (a) (w.heap.size) rfl (by kernel_rfl) (by kernel_rfl) (by kernel_rfl) (fun _ _ _ h => h) (by rfl) rfl rfl (fun _ h => h.1 (w.heap.size, a) (.tail _ (.tail _ (.head _)))) hH3 ?_
      simp only [Act.put, List.setIfInBounds_toArray, List.set_cons_zero, List.set_cons_succ]
      refine take32 3 (L) (bO) rfl (by kernel_rfl) (by kernel_rfl) (by kernel_rfl) (fun _ _ _ h => h) (by rfl) rfl rfl (fun _ h => h.1 (bO, L) (.tail _ (.head _))) hH3 ?_
      simp only [Act.put, List.setIfInBounds_toArray, List.set_cons_zero, List.set_cons_succ]
      refine step1 1 (by kernel_rfl) rfl (fun K hK => ?_)
      rw [if_pos (by rfl)]
      go_simp
      refine Calls.mono (canon_is (a) ha true (decide_eq_true h0.out) _ (hT.grown hH3.2)) ?_
      rintro e w4 ⟨rfl, hg4⟩
      dsimp only
      refine hK.out _ _ (keepE hH3 hg4) (fun hH4 => ?_)
      clear hK K
      clear hH3
      clear hg4
      refine step1 4 (by kernel_rfl) rfl (fun K hK => ?_)
      rw [if_pos (by rfl)]
      go_simp
      refine Calls.mono (less_is (a) (L) ha L_lt_M true (decide_eq_true h0.out) _) ?_
      rintro e w5 ⟨rfl, hg5⟩
      dsimp only
      refine hK.out _ _ (keepE hH4 hg5) (fun hH5 => ?_)
      clear hK K
      clear hH4
      clear hg5
      refine takeV 5 (.bool false) rfl (by kernel_rfl) (by kernel_rfl) (by kernel_rfl) (fun _ _ _ h => h) (by rfl) (fun w _ => by first | rfl | go_simp) hH5 ?_
      simp only [Act.put, List.setIfInBounds_toArray, List.set_cons_zero, List.set_cons_succ]
      refine takeV 6 (.bool false) rfl (by kernel_rfl) (by kernel_rfl) (by kernel_rfl) (fun _ _ _ h => h) (by rfl) (fun w _ => rfl) hH5 ?_
      simp only [Act.put, List.setIfInBounds_toArray, List.set_cons_zero, List.set_cons_succ]
      refine take32 7 (sred (a)) (w1.heap.size) rfl (by kernel_rfl) (by kernel_rfl) (by kernel_rfl) (fun _ _ _ h => h) (by rfl) rfl rfl (fun _ h => h.1 (w1.heap.size, sred (a)) (.head _)) hH5 ?_
      simp only [Act.put, List.setIfInBounds_toArray, List.set_cons_zero, List.set_cons_succ]
      refine take32 8 (L) (bO) rfl (by kernel_rfl) (by kernel_rfl) (by kernel_rfl) (fun _ _ _ h => h) (by rfl) rfl rfl (fun _ h => h.1 (bO, L) (.tail _ (.head _))) hH5 ?_
      simp only [Act.put, List.setIfInBounds_toArray, List.set_cons_zero, List.set_cons_succ]
      refine step1 9 (by kernel_rfl) rfl (fun K hK => ?_)
      rw [if_pos (by rfl)]
      go_simp
      refine Calls.mono (less_is (sred (a)) (L) (sred_lt _) L_lt_M true (decide_eq_true (modL_lt a)) _) ?_
      rintro e w6 ⟨rfl, hg6⟩
      dsimp only
      refine hK.out _ _ (keepE hH5 hg6) (fun hH6 => ?_)
      clear hK K
      clear hH5
      clear hg6
      refine takeV 10 (.bool false) rfl (by kernel_rfl) (by kernel_rfl) (by kernel_rfl) (fun _ _ _ h => h) (by rfl) (fun w _ => by first | rfl | go_simp) hH6 ?_
      simp only [Act.put, List.setIfInBounds_toArray, List.set_cons_zero, List.set_cons_succ]
      refine takeV 11 (.bool false) rfl (by kernel_rfl) (by kernel_rfl) (by kernel_rfl) (fun _ _ _ h => h) (by rfl) (fun w _ => rfl) hH6 ?_
      simp only [Act.put, List.setIfInBounds_toArray, List.set_cons_zero, List.set_cons_succ]
      refine takeV 12 (.bool false) rfl (by kernel_rfl) (by kernel_rfl) (by kernel_rfl) (fun _ _ _ h => h) (by rfl) (fun w _ => rfl) hH6 ?_
      simp only [Act.put, List.setIfInBounds_toArray, List.set_cons_zero, List.set_cons_succ]
      refine take32 13 (sred (a)) (w1.heap.size) rfl (by kernel_rfl) (by kernel_rfl) (by kernel_rfl) (fun _ _ _ h => h) (by rfl) rfl rfl (fun _ h => h.1 (w1.heap.size, sred (a)) (.head _)) hH6 ?_
      simp only [Act.put, List.setIfInBounds_toArray, List.set_cons_zero, List.set_cons_succ]
      refine take32 14 (a) (w.heap.size) rfl (by kernel_rfl) (by kernel_rfl) (by kernel_rfl) (fun _ _ _ h => h) (by rfl) rfl rfl (fun _ h => h.1 (w.heap.size, a) (.tail _ (.tail _ (.head _)))) hH6 ?_
      simp only [Act.put, List.setIfInBounds_toArray, List.set_cons_zero, List.set_cons_succ]
      refine takeV 15 (.bool true) rfl (by kernel_rfl) (by kernel_rfl) (by kernel_rfl) (fun _ _ _ h => h) (by rfl) (fun w _ => exec_eql_same rfl (sred (a)) (a) rfl rfl (sred_lt _) ha (sred_same h0.out) w) hH6 ?_
      simp only [Act.put, List.setIfInBounds_toArray, List.set_cons_zero, List.set_cons_succ]
      refine take32 16 (a) (w.heap.size) rfl (by kernel_rfl) (by kernel_rfl) (by kernel_rfl) (fun _ _ _ h => h) (by rfl) rfl rfl (fun _ h => h.1 (w.heap.size, a) (.tail _ (.tail _ (.head _)))) hH6 ?_
      simp only [Act.put, List.setIfInBounds_toArray, List.set_cons_zero, List.set_cons_succ]
      refine take32 17 (L) (bO) rfl (by kernel_rfl) (by kernel_rfl) (by kernel_rfl) (fun _ _ _ h => h) (by rfl) rfl rfl (fun _ h => h.1 (bO, L) (.tail _ (.head _))) hH6 ?_
      simp only [Act.put, List.setIfInBounds_toArray, List.set_cons_zero, List.set_cons_succ]
      refine step1 18 (by kernel_rfl) rfl (fun K hK => ?_)
      rw [if_pos (by rfl)]
      go_simp
      refine Calls.mono (less_is (a) (L) ha L_lt_M true (decide_eq_true h0.out) _) ?_
      rintro e w7 ⟨rfl, hg7⟩
      dsimp only
      refine hK.out _ _ (keepE hH6 hg7) (fun hH7 => ?_)
      clear hK K
      clear hH6
      clear hg7
      refine takeV 19 (.bool false) rfl (by kernel_rfl) (by kernel_rfl) (by kernel_rfl) (fun _ _ _ h => h) (by rfl) (fun w _ => by first | rfl | go_simp) hH7 ?_
      simp only [Act.put, List.setIfInBounds_toArray, List.set_cons_zero, List.set_cons_succ]
      refine takeV 20 (.bool false) rfl (by kernel_rfl) (by kernel_rfl) (by kernel_rfl) (fun _ _ _ h => h) (by rfl) (fun w _ => rfl) hH7 ?_
      simp only [Act.put, List.setIfInBounds_toArray, List.set_cons_zero, List.set_cons_succ]
      refine wpAnyH_done (by kernel_rfl) ?_ _
      refine NoPanic.normal ?_
      obtain ⟨hE8, hW8⟩ := hH7
      repeat ((fail_if_success (with_reducible show Code.wp _ (Code.region _ _ _) _ _ _)); go_step)
      refine wp_region_noPanic ?_
      refine wp_region_held_drew (S := fun w' => Holds [(w1.heap.size, sred (a)), (bO, L), (w.heap.size, a)] w' ∧ Grown w w') (by kernel_rfl) ⟨hE8, hW8⟩ (fun hH9 => ?_)
      clear hE8 hW8
      refine take32 0 (a) (w.heap.size) rfl (by kernel_rfl) (by kernel_rfl) (by kernel_rfl) (fun _ _ _ h => h) (by rfl) rfl rfl (fun _ h => h.1 (w.heap.size, a) (.tail _ (.tail _ (.head _)))) hH9 ?_
      simp only [Act.put, List.setIfInBounds_toArray, List.set_cons_zero, List.set_cons_succ]
      refine take32 3 (sred (a)) (w1.heap.size) rfl (by kernel_rfl) (by kernel_rfl) (by kernel_rfl) (fun _ _ _ h => h) (by rfl) rfl rfl (fun _ h => h.1 (w1.heap.size, sred (a)) (.head _)) hH9 ?_
      simp only [Act.put, List.setIfInBounds_toArray, List.set_cons_zero, List.set_cons_succ]
      refine step1 1 (by kernel_rfl) rfl (fun K hK => ?_)
      rw [if_pos (by rfl)]
      go_simp
      refine Calls.mono (number_nat 0 (by decide) 0 rfl _) ?_
      rintro e w10 ⟨rfl, hg10⟩
      dsimp only
      refine hK.out _ _ (keepE hH9 hg10) (fun hH10 => ?_)
      clear hK K
      clear hH9
      clear hg10
      refine step1 2 (by kernel_rfl) rfl (fun K hK => ?_)
      rw [if_pos (by rfl)]
      go_simp
      refine Calls.mono (Add_num (a) (0) ha (by decide) _ (hT.grown hH10.2)) ?_
      rintro e w11 ⟨rfl, hg11⟩
      dsimp only
      refine hK.out _ _ (keepE hH10 hg11) (fun hH11 => ?_)
      clear hK K
      clear hH10
      clear hg11
      refine takeV 4 (.bool true) rfl (by kernel_rfl) (by kernel_rfl) (by kernel_rfl) (fun _ _ _ h => h) (by rfl) (fun w _ => exec_eql_same rfl (sadd (a) (0)) (sred (a)) rfl rfl (sadd_lt _ _) (sred_lt _) (canon_add0 a) w) hH11 ?_
      simp only [Act.put, List.setIfInBounds_toArray, List.set_cons_zero, List.set_cons_succ]
      refine takeV 5 (.bool true) rfl (by kernel_rfl) (by kernel_rfl) (by kernel_rfl) (fun _ _ _ h => h) (by rfl) (fun w _ => rfl) hH11 ?_
      simp only [Act.put, List.setIfInBounds_toArray, List.set_cons_zero, List.set_cons_succ]
      refine take32 6 (a) (w.heap.size) rfl (by kernel_rfl) (by kernel_rfl) (by kernel_rfl) (fun _ _ _ h => h) (by rfl) rfl rfl (fun _ h => h.1 (w.heap.size, a) (.tail _ (.tail _ (.head _)))) hH11 ?_
      simp only [Act.put, List.setIfInBounds_toArray, List.set_cons_zero, List.set_cons_succ]
      refine take32 7 (L) (bO) rfl (by kernel_rfl) (by kernel_rfl) (by kernel_rfl) (fun _ _ _ h => h) (by rfl) rfl rfl (fun _ h => h.1 (bO, L) (.tail _ (.head _))) hH11 ?_
      simp only [Act.put, List.setIfInBounds_toArray, List.set_cons_zero, List.set_cons_succ]
      refine take32 9 (sred (a)) (w1.heap.size) rfl (by kernel_rfl) (by kernel_rfl) (by kernel_rfl) (fun _ _ _ h => h) (by rfl) rfl rfl (fun _ h => h.1 (w1.heap.size, sred (a)) (.head _)) hH11 ?_
      simp only [Act.put, List.setIfInBounds_toArray, List.set_cons_zero, List.set_cons_succ]
      refine step1 8 (by kernel_rfl) rfl (fun K hK => ?_)
      rw [if_pos (by rfl)]
      go_simp
      refine Calls.mono (Add_num (a) (L) ha L_lt_M _ (hT.grown hH11.2)) ?_
      rintro e w12 ⟨rfl, hg12⟩
      dsimp only
      refine hK.out _ _ (keepE hH11 hg12) (fun hH12 => ?_)
      clear hK K
      clear hH11
      clear hg12
      refine takeV 10 (.bool true) rfl (by kernel_rfl) (by kernel_rfl) (by kernel_rfl) (fun _ _ _ h => h) (by rfl) (fun w _ => exec_eql_same rfl (sadd (a) (L)) (sred (a)) (by rfl) (by rfl) (sadd_lt _ _) (sred_lt _) (canon_addL a) w) hH12 ?_
      simp only [Act.put, List.setIfInBounds_toArray, List.set_cons_zero, List.set_cons_succ]
      refine takeV 11 (.bool true) rfl (by kernel_rfl) (by kernel_rfl) (by kernel_rfl) (fun _ _ _ h => h) (by rfl) (fun w _ => rfl) hH12 ?_
      simp only [Act.put, List.setIfInBounds_toArray, List.set_cons_zero, List.set_cons_succ]
      refine takeV 12 (.bool true) rfl (by kernel_rfl) (by kernel_rfl) (by kernel_rfl) (fun _ _ _ h => h) (by rfl) (fun w _ => rfl) hH12 ?_
      simp only [Act.put, List.setIfInBounds_toArray, List.set_cons_zero, List.set_cons_succ]
      refine wpAnyH_done (by kernel_rfl) ?_ _
      refine NoPanic.normal ?_
      obtain ⟨hE13, hW13⟩ := hH12
      repeat go_step
      go_ret
      exact ⟨rfl, by first | assumption | exact hW13⟩

set_option maxRecDepth 100000 in
set_option maxHeartbeats 4000000 in
theorem canon_walk0 (a : Nat) (ha : a < M) (h0 : Hid (¬ a < L)) (w : World) (hT : Tab w) : Calls Tryd.prog 10 #[yv 32 a] w fun e w' => e = .returned (.bool true) ∧ Grown w w' := by
  obtain ⟨hE9, hW9⟩ := params1 w a
  rw [yv]
  go_enter Tryd.func10, Tryd.ntmps10
  go_wp2_with fail
  generalize (w.alloc (.cells (yl 32 a).toArray 23)) = W0 at *
  refine Calls.mono (Order_num _ (hT.grown hW9)) ?_
  rintro e w1 ⟨rfl, g1⟩
  dsimp only
  have H1 := Hid.of (And.intro (hE9.grown g1) (grown_trans hW9 g1))
  clear hE9 hW9 g1
  go_wp2_with (with_reducible show wpList _ _ _ ({ dst := _, op := Op.store 23 _ _, type := _, pos := _, after := _, guard := _ } :: _) _ _; refine Shut.out ?_)
  show wpList _ _ _ _ _ _
  refine wpList_store_new L (by simp) rfl rfl rfl rfl (fun w2 hg2 hr2 ht2 => ?_)
  simp only [Act.put]
  apply wpList_nil
  have H2 := Hid.of (And.intro ((H1.out.1.grown hg2).cons hr2) (grown_trans H1.out.2 hg2))
  clear H1 hg2 hr2 ht2
  generalize w1.heap.size = bO at *
  go_wp2_with (with_reducible show wpList _ _ _ ({ dst := _, op := Op.store 46 _ _, type := _, pos := _, after := _, guard := _ } :: _) _ _; refine Shut.out ?_)
  show wpList _ _ _ _ _ _
  refine wpList_store_new16 (by simp) rfl rfl rfl (by kernel_rfl) (fun w3 hg3 hr3 => ?_)
  simp only [Act.put]
  apply wpList_nil
  have hE0 := H2.out.1.grown hg3
  have hW0 := grown_trans H2.out.2 hg3
  clear H2 hg3
  generalize w2.heap.size = b6 at *
  have cl : ∀ i, i < 32 → w3.cell? ⟨bO, i, none⟩ = some (.int .u8 (dg 256 L i : Nat)) := by
    intro i hi
    have := hE0 (bO, L) (.head _) i _ (yl_get 32 L i hi); rwa [Nat.zero_add] at this
  have c6 : ∀ i, i < 16 → w3.cell? ⟨b6, i, none⟩ = some (.int .u8 (dg 256 L i : Nat)) := by
    intro i hi
    have := hr3 i _ (yl_get 16 L i hi); rwa [Nat.zero_add] at this
  have CL := Hid.of (And.intro cl c6)
  have hE1 := Hid.of hE0
  have hW1 := Hid.of hW0
  clear cl c6 hr3 hE0 hW0
  go_wp2
  go_loopw [5] (fun v5 wr => ∃ i : Nat, v5 = .int .i64 (i : Int) ∧ i ≤ 32 ∧ wr = w3) (fun v5 _ => 32 - (intOf v5).toNat)
  case atStart => exact ⟨0, rfl, by decide, rfl⟩
  case round =>
    obtain ⟨i, rfl, hi, rfl⟩ := hrel
    by_cases hlt : i < 32
    · have c1 := CL.out.1 i hlt
      have b1 : (i : Int) < 32 := Int.ofNat_lt.2 hlt
      by_cases h1 : i < 16
      · have c2 := CL.out.2 i h1
        have b2 : (i : Int) < 16 := Int.ofNat_lt.2 h1
        have b3 : ¬ (i : Int) = 31 := by omega
        generalize dg 256 L i = d at *
        go_wp2
        go_roundw
        case rel => exact ⟨i + 1, by go_num, by omega, by first | rfl | trivial⟩
        case measure => simp [intOf]; omega
      · have b2 : ¬ (i : Int) < 16 := fun h => h1 (Int.ofNat_lt.1 h)
        by_cases h2 : i = 31
        · subst h2
          rw [show dg 256 L 31 = 16 from by decide] at c1
          go_wp2
          go_roundw
          case rel => exact ⟨32, rfl, by omega, by first | rfl | trivial⟩
          case measure => simp [intOf]
        · have b3 : ¬ (i : Int) = 31 := by omega
          rw [zero_mid i (by omega) (by omega)] at c1
          go_wp2
          go_roundw
          case rel => exact ⟨i + 1, by go_num, by omega, by first | rfl | trivial⟩
          case measure => simp [intOf]; omega
    · have hi32 : i = 32 := by omega
      subst hi32
      have hE0 := hE1.out
      have hW0 := hW1.out
      clear hE1 hW1 CL hi hlt
      go_wp2_with (with_reducible show wpList _ _ _ ({ dst := _, op := Op.load 23 _, type := _, pos := _, after := _, guard := _ } :: _) _ _; refine Shut.out ?_)
      show wpList _ _ _ _ _ _
      refine wpList_load32 rfl _ rfl _ rfl (a) (hE0 (w.heap.size, a) (.tail _ (.head _))) ?_
      simp only [Act.put, List.setIfInBounds_toArray, List.set_cons_zero, List.set_cons_succ]
      go_wp2_with fail
      refine Calls.mono (cut_num (a) ha _ (hT.grown hW0)) ?_
      rintro e w1 ⟨rfl, hg1⟩
      dsimp only
      go_step
      have hE1 := hE0.grown hg1
      have hW1 := grown_trans hW0 hg1
      clear hE0 hW0 hg1
      go_wp2_with (with_reducible show wpList _ _ _ ({ dst := _, op := Op.store 23 _ _, type := _, pos := _, after := _, guard := _ } :: _) _ _; refine Shut.out ?_)
      show wpList _ _ _ _ _ _
      refine wpList_store_new (sred (a)) (by simp) rfl rfl rfl rfl (fun w2 hg2 hr2 _ => ?_)
      simp only [Act.put]
      have hE2 := (hE1.grown hg2).cons hr2
      have hW2 := grown_trans hW1 hg2
      clear hE1 hW1 hg2 hr2
      apply wpList_nil
      repeat ((fail_if_success (with_reducible show Code.wp _ (Code.region _ _ _) _ _ _)); go_step)
      refine wp_region_noPanic ?_
      refine wp_region_held_drew (S := fun w' => Holds [(w1.heap.size, sred (a)), (bO, L), (w.heap.size, a)] w' ∧ Grown w w') (by kernel_rfl) ⟨hE2, hW2⟩ (fun hH3 => ?_)
      clear hE2 hW2
      refine take32 0 (a) (w.heap.size) rfl (by kernel_rfl) (by kernel_rfl) (by kernel_rfl) (fun _ _ _ h => h) (by rfl) rfl rfl (fun _ h => h.1 (w.heap.size, a) (.tail _ (.tail _ (.head _)))) hH3 ?_
      simp only [Act.put, List.setIfInBounds_toArray, List.set_cons_zero, List.set_cons_succ]
      refine take32 2 (a) (w.heap.size) rfl (by kernel_rfl) (by kernel_rfl) (by kernel_rfl) (fun _ _ _ h => h) (by rfl) rfl rfl (fun _ h => h.1 (w.heap.size, a) (.tail _ (.tail _ (.head _)))) hH3 ?_
      simp only [Act.put, List.setIfInBounds_toArray, List.set_cons_zero, List.set_cons_succ]
      refine take32 3 (L) (bO) rfl (by kernel_rfl) (by kernel_rfl) (by kernel_rfl) (fun _ _ _ h => h) (by rfl) rfl rfl (fun _ h => h.1 (bO, L) (.tail _ (.head _))) hH3 ?_
      simp only [Act.put, List.setIfInBounds_toArray, List.set_cons_zero, List.set_cons_succ]
      refine step1 1 (by kernel_rfl) rfl (fun K hK => ?_)
      rw [if_pos (by rfl)]
      go_simp
      refine Calls.mono (canon_is (a) ha false (decide_eq_false h0.out) _ (hT.grown hH3.2)) ?_
      rintro e w4 ⟨rfl, hg4⟩
      dsimp only
      refine hK.out _ _ (keepE hH3 hg4) (fun hH4 => ?_)
      clear hK K
      clear hH3
      clear hg4
      refine step1 4 (by kernel_rfl) rfl (fun K hK => ?_)
      rw [if_pos (by rfl)]
      go_simp
      refine Calls.mono (less_is (a) (L) ha L_lt_M false (decide_eq_false h0.out) _) ?_
      rintro e w5 ⟨rfl, hg5⟩
      dsimp only
      refine hK.out _ _ (keepE hH4 hg5) (fun hH5 => ?_)
      clear hK K
      clear hH4
      clear hg5
      refine takeV 5 (.bool false) rfl (by kernel_rfl) (by kernel_rfl) (by kernel_rfl) (fun _ _ _ h => h) (by rfl) (fun w _ => by first | rfl | go_simp) hH5 ?_
      simp only [Act.put, List.setIfInBounds_toArray, List.set_cons_zero, List.set_cons_succ]
      refine takeV 6 (.bool false) rfl (by kernel_rfl) (by kernel_rfl) (by kernel_rfl) (fun _ _ _ h => h) (by rfl) (fun w _ => rfl) hH5 ?_
      simp only [Act.put, List.setIfInBounds_toArray, List.set_cons_zero, List.set_cons_succ]
      refine take32 7 (sred (a)) (w1.heap.size) rfl (by kernel_rfl) (by kernel_rfl) (by kernel_rfl) (fun _ _ _ h => h) (by rfl) rfl rfl (fun _ h => h.1 (w1.heap.size, sred (a)) (.head _)) hH5 ?_
      simp only [Act.put, List.setIfInBounds_toArray, List.set_cons_zero, List.set_cons_succ]
      refine take32 8 (L) (bO) rfl (by kernel_rfl) (by kernel_rfl) (by kernel_rfl) (fun _ _ _ h => h) (by rfl) rfl rfl (fun _ h => h.1 (bO, L) (.tail _ (.head _))) hH5 ?_
      simp only [Act.put, List.setIfInBounds_toArray, List.set_cons_zero, List.set_cons_succ]
      refine step1 9 (by kernel_rfl) rfl (fun K hK => ?_)
      rw [if_pos (by rfl)]
      go_simp
      refine Calls.mono (less_is (sred (a)) (L) (sred_lt _) L_lt_M true (decide_eq_true (modL_lt a)) _) ?_
      rintro e w6 ⟨rfl, hg6⟩
      dsimp only
      refine hK.out _ _ (keepE hH5 hg6) (fun hH6 => ?_)
      clear hK K
      clear hH5
      clear hg6
      refine takeV 10 (.bool false) rfl (by kernel_rfl) (by kernel_rfl) (by kernel_rfl) (fun _ _ _ h => h) (by rfl) (fun w _ => by first | rfl | go_simp) hH6 ?_
      simp only [Act.put, List.setIfInBounds_toArray, List.set_cons_zero, List.set_cons_succ]
      refine takeV 11 (.bool false) rfl (by kernel_rfl) (by kernel_rfl) (by kernel_rfl) (fun _ _ _ h => h) (by rfl) (fun w _ => rfl) hH6 ?_
      simp only [Act.put, List.setIfInBounds_toArray, List.set_cons_zero, List.set_cons_succ]
      refine takeV 12 (.bool false) rfl (by kernel_rfl) (by kernel_rfl) (by kernel_rfl) (fun _ _ _ h => h) (by rfl) (fun w _ => rfl) hH6 ?_
      simp only [Act.put, List.setIfInBounds_toArray, List.set_cons_zero, List.set_cons_succ]
      refine take32 13 (sred (a)) (w1.heap.size) rfl (by kernel_rfl) (by kernel_rfl) (by kernel_rfl) (fun _ _ _ h => h) (by rfl) rfl rfl (fun _ h => h.1 (w1.heap.size, sred (a)) (.head _)) hH6 ?_
      simp only [Act.put, List.setIfInBounds_toArray, List.set_cons_zero, List.set_cons_succ]
      refine take32 14 (a) (w.heap.size) rfl (by kernel_rfl) (by kernel_rfl) (by kernel_rfl) (fun _ _ _ h => h) (by rfl) rfl rfl (fun _ h => h.1 (w.heap.size, a) (.tail _ (.tail _ (.head _)))) hH6 ?_
      simp only [Act.put, List.setIfInBounds_toArray, List.set_cons_zero, List.set_cons_succ]
      refine takeV 15 (.bool false) rfl (by kernel_rfl) (by kernel_rfl) (by kernel_rfl) (fun _ _ _ h => h) (by rfl) (fun w _ => exec_eql_apart rfl (sred (a)) (a) rfl rfl (sred_lt _) ha (sred_other h0.out) w) hH6 ?_
      simp only [Act.put, List.setIfInBounds_toArray, List.set_cons_zero, List.set_cons_succ]
      refine take32 16 (a) (w.heap.size) rfl (by kernel_rfl) (by kernel_rfl) (by kernel_rfl) (fun _ _ _ h => h) (by rfl) rfl rfl (fun _ h => h.1 (w.heap.size, a) (.tail _ (.tail _ (.head _)))) hH6 ?_
      simp only [Act.put, List.setIfInBounds_toArray, List.set_cons_zero, List.set_cons_succ]
      refine take32 17 (L) (bO) rfl (by kernel_rfl) (by kernel_rfl) (by kernel_rfl) (fun _ _ _ h => h) (by rfl) rfl rfl (fun _ h => h.1 (bO, L) (.tail _ (.head _))) hH6 ?_
      simp only [Act.put, List.setIfInBounds_toArray, List.set_cons_zero, List.set_cons_succ]
      refine step1 18 (by kernel_rfl) rfl (fun K hK => ?_)
      rw [if_pos (by rfl)]
      go_simp
      refine Calls.mono (less_is (a) (L) ha L_lt_M false (decide_eq_false h0.out) _) ?_
      rintro e w7 ⟨rfl, hg7⟩
      dsimp only
      refine hK.out _ _ (keepE hH6 hg7) (fun hH7 => ?_)
      clear hK K
      clear hH6
      clear hg7
      refine takeV 19 (.bool false) rfl (by kernel_rfl) (by kernel_rfl) (by kernel_rfl) (fun _ _ _ h => h) (by rfl) (fun w _ => by first | rfl | go_simp) hH7 ?_
      simp only [Act.put, List.setIfInBounds_toArray, List.set_cons_zero, List.set_cons_succ]
      refine takeV 20 (.bool false) rfl (by kernel_rfl) (by kernel_rfl) (by kernel_rfl) (fun _ _ _ h => h) (by rfl) (fun w _ => rfl) hH7 ?_
      simp only [Act.put, List.setIfInBounds_toArray, List.set_cons_zero, List.set_cons_succ]
      refine wpAnyH_done (by kernel_rfl) ?_ _
      refine NoPanic.normal ?_
      obtain ⟨hE8, hW8⟩ := hH7
      repeat ((fail_if_success (with_reducible show Code.wp _ (Code.region _ _ _) _ _ _)); go_step)
      refine wp_region_noPanic ?_
      refine wp_region_held_drew (S := fun w' => Holds [(w1.heap.size, sred (a)), (bO, L), (w.heap.size, a)] w' ∧ Grown w w') (by kernel_rfl) ⟨hE8, hW8⟩ (fun hH9 => ?_)
      clear hE8 hW8
      refine take32 0 (a) (w.heap.size) rfl (by kernel_rfl) (by kernel_rfl) (by kernel_rfl) (fun _ _ _ h => h) (by rfl) rfl rfl (fun _ h => h.1 (w.heap.size, a) (.tail _ (.tail _ (.head _)))) hH9 ?_
      simp only [Act.put, List.setIfInBounds_toArray, List.set_cons_zero, List.set_cons_succ]
      refine take32 3 (sred (a)) (w1.heap.size) rfl (by kernel_rfl) (by kernel_rfl) (by kernel_rfl) (fun _ _ _ h => h) (by rfl) rfl rfl (fun _ h => h.1 (w1.heap.size, sred (a)) (.head _)) hH9 ?_
      simp only [Act.put, List.setIfInBounds_toArray, List.set_cons_zero, List.set_cons_succ]
      refine step1 1 (by kernel_rfl) rfl (fun K hK => ?_)
      rw [if_pos (by rfl)]
      go_simp
      refine Calls.mono (number_nat 0 (by decide) 0 rfl _) ?_
      rintro e w10 ⟨rfl, hg10⟩
      dsimp only
      refine hK.out _ _ (keepE hH9 hg10) (fun hH10 => ?_)
      clear hK K
      clear hH9
      clear hg10
      refine step1 2 (by kernel_rfl) rfl (fun K hK => ?_)
      rw [if_pos (by rfl)]
      go_simp
      refine Calls.mono (Add_num (a) (0) ha (by decide) _ (hT.grown hH10.2)) ?_
      rintro e w11 ⟨rfl, hg11⟩
      dsimp only
      refine hK.out _ _ (keepE hH10 hg11) (fun hH11 => ?_)
      clear hK K
      clear hH10
      clear hg11
      refine takeV 4 (.bool true) rfl (by kernel_rfl) (by kernel_rfl) (by kernel_rfl) (fun _ _ _ h => h) (by rfl) (fun w _ => exec_eql_same rfl (sadd (a) (0)) (sred (a)) rfl rfl (sadd_lt _ _) (sred_lt _) (canon_add0 a) w) hH11 ?_
      simp only [Act.put, List.setIfInBounds_toArray, List.set_cons_zero, List.set_cons_succ]
      refine takeV 5 (.bool true) rfl (by kernel_rfl) (by kernel_rfl) (by kernel_rfl) (fun _ _ _ h => h) (by rfl) (fun w _ => rfl) hH11 ?_
      simp only [Act.put, List.setIfInBounds_toArray, List.set_cons_zero, List.set_cons_succ]
      refine take32 6 (a) (w.heap.size) rfl (by kernel_rfl) (by kernel_rfl) (by kernel_rfl) (fun _ _ _ h => h) (by rfl) rfl rfl (fun _ h => h.1 (w.heap.size, a) (.tail _ (.tail _ (.head _)))) hH11 ?_
      simp only [Act.put, List.setIfInBounds_toArray, List.set_cons_zero, List.set_cons_succ]
      refine take32 7 (L) (bO) rfl (by kernel_rfl) (by kernel_rfl) (by kernel_rfl) (fun _ _ _ h => h) (by rfl) rfl rfl (fun _ h => h.1 (bO, L) (.tail _ (.head _))) hH11 ?_
      simp only [Act.put, List.setIfInBounds_toArray, List.set_cons_zero, List.set_cons_succ]
      refine take32 9 (sred (a)) (w1.heap.size) rfl (by kernel_rfl) (by kernel_rfl) (by kernel_rfl) (fun _ _ _ h => h) (by rfl) rfl rfl (fun _ h => h.1 (w1.heap.size, sred (a)) (.head _)) hH11 ?_
      simp only [Act.put, List.setIfInBounds_toArray, List.set_cons_zero, List.set_cons_succ]
      refine step1 8 (by kernel_rfl) rfl (fun K hK => ?_)
      rw [if_pos (by rfl)]
      go_simp
      refine Calls.mono (Add_num (a) (L) ha L_lt_M _ (hT.grown hH11.2)) ?_
      rintro e w12 ⟨rfl, hg12⟩
      dsimp only
      refine hK.out _ _ (keepE hH11 hg12) (fun hH12 => ?_)
      clear hK K
      clear hH11
      clear hg12
      refine takeV 10 (.bool true) rfl (by kernel_rfl) (by kernel_rfl) (by kernel_rfl) (fun _ _ _ h => h) (by rfl) (fun w _ => exec_eql_same rfl (sadd (a) (L)) (sred (a)) (by rfl) (by rfl) (sadd_lt _ _) (sred_lt _) (canon_addL a) w) hH12 ?_
      simp only [Act.put, List.setIfInBounds_toArray, List.set_cons_zero, List.set_cons_succ]
      refine takeV 11 (.bool true) rfl (by kernel_rfl) (by kernel_rfl) (by kernel_rfl) (fun _ _ _ h => h) (by rfl) (fun w _ => rfl) hH12 ?_
      simp only [Act.put, List.setIfInBounds_toArray, List.set_cons_zero, List.set_cons_succ]
      refine takeV 12 (.bool true) rfl (by kernel_rfl) (by kernel_rfl) (by kernel_rfl) (fun _ _ _ h => h) (by rfl) (fun w _ => rfl) hH12 ?_
      simp only [Act.put, List.setIfInBounds_toArray, List.set_cons_zero, List.set_cons_succ]
      refine wpAnyH_done (by kernel_rfl) ?_ _
      refine NoPanic.normal ?_
      obtain ⟨hE13, hW13⟩ := hH12
      repeat go_step
      go_ret
      exact ⟨rfl, by first | assumption | exact hW13⟩
end Go.Proofs.YteijccjdejjbjaaDoor
