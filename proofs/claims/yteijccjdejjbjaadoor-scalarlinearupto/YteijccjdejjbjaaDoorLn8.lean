import Derived.Test.YteijccjdejjbjaaDoorNd
import Derived.Test.YteijccjdejjbjaaDoorVl
import Derived.Test.YteijccjdejjbjaaDoorAp3
import Derived.Test.YteijccjdejjbjaaDoorEng
import Derived.Test.YteijccjdejjbjaaDoorRg
namespace ScalarNum
theorem two_mod : ∀ m, m < 301 → 2 ^ m % L ≠ 0 := by decide +kernel
theorem two_step (i : Nat) : (2 ^ i % L + 2 ^ i % L) % L = 2 ^ (i + 1) % L := by
  rw [← Nat.add_mod, Nat.pow_succ, Nat.mul_two]
end ScalarNum
namespace Go.Proofs.YteijccjdejjbjaaDoor
open Go.RowKit Go.Shelf ScalarNum

theorem join8 (la lb : List I8) : vf (down (la ++ lb).length (at8 (la ++ lb)) (la ++ lb).length) = smad (2 ^ la.length % L) (vf (down lb.length (at8 lb) lb.length)) (vf (down la.length (at8 la) la.length)) := by
  rw [List.length_append]
  refine vf_join (at8 la) (at8 lb) (at8 (la ++ lb)) la.length lb.length (fun i hi => ?_) (fun i hi => ?_)
  · rw [at8_lt (by rw [List.length_append]; omega), at8_lt hi, List.getElem_append_left hi]
  · rw [at8_lt (by rw [List.length_append]; omega), at8_lt hi, List.getElem_append_right (by omega)]
    congr 1
    omega
/-- what stands in the variables */ -/
structure LY (w wr : World) (b6 b8 b10 b12 v x y p : Nat) : Prop where
  r6 : wr.rangeAt b6 0 (yl 32 v)
  r8 : wr.rangeAt b8 0 (yl 32 x)
  r10 : wr.rangeAt b10 0 (yl 32 y)
  r12 : wr.rangeAt b12 0 (yl 32 p)
  t12 : wr.there b12 0 32
  la : Lain w wr

set_option maxRecDepth 100000 in
set_option maxHeartbeats 1000000 in
theorem linear_walk (va vb : Value) (la lb : List I8) (w : World) (hA : Sl8 w va la) (hB : Sl8 w vb lb) (hla : la.length ≤ 1048576) (hlb : lb.length ≤ 1048576) (hT : Tab w) :
    Calls Tryd.prog 5 #[va, vb] w fun e w' => e = .returned (.bool true) ∧ Lain w w' := by
  have HA := Hid.of hA
  have HB := Hid.of hB
  have HT := Hid.of hT
  obtain ⟨aa, ca, rfl, _⟩ := hA
  obtain ⟨ab, cb, rfl, _⟩ := hB
  clear hT
  go_enter Tryd.func5, Tryd.ntmps5
  go_wp2_with (with_reducible show wpList _ _ _ ({ dst := _, op := Op.call { callee := Callee.builtin Builtin.append, args := _, argTypes := _ }, type := _, pos := _, after := _, guard := _ } :: _) _ _; refine Shut.out ?_)
  show wpList _ _ _ _ _ _
  refine wpList_appSl8 rfl _ _ rfl w.heap.size _ _ [] la rfl (own8_nil _ _) rfl HA.out (by simp; omega) (Nat.le_refl _) ?_
  intro v1 w1 o1 k1
  rw [List.nil_append] at o1
  have H1 := Hid.of (And.intro o1 ((Lain.refl w).below (Nat.le_refl _) k1))
  clear o1 k1
  simp only [Act.put, List.setIfInBounds_toArray, List.set_cons_zero, List.set_cons_succ]
  go_wp2_with (with_reducible show wpList _ _ _ ({ dst := _, op := Op.call { callee := Callee.builtin Builtin.append, args := _, argTypes := _ }, type := _, pos := _, after := _, guard := _ } :: _) _ _; refine Shut.out ?_)
  show wpList _ _ _ _ _ _
  refine wpList_appSl8 rfl _ _ rfl w.heap.size _ _ la lb rfl H1.out.1 rfl (HB.out.lain H1.out.2) (by omega) H1.out.2.2.2.1 ?_
  intro v2 w2 o2 k2
  have H2 := Hid.of (And.intro o2 (H1.out.2.below (Nat.le_refl _) k2))
  clear o2 k2 H1
  simp only [Act.put, List.setIfInBounds_toArray, List.set_cons_zero, List.set_cons_succ]
  obtain ⟨a2, c2, rfl⟩ := H2.out.1.len
  have hlen : (la ++ lb).length = la.length + lb.length := List.length_append
  obtain ⟨N, hN⟩ : ∃ N, (la ++ lb).length = N := ⟨_, rfl⟩
  have HD := Hid.of (H2.out.1.sl.dig)
  have HJ := Hid.of (join8 la lb)
  rw [hN] at HD HJ hlen
  rw [hN]
  have HLN := Hid.of hlen
  have hNb : N ≤ 2097152 := by omega
  have hNa : la.length ≤ N := by omega
  have hNc : lb.length ≤ N := by omega
  clear hlen hN
  by_cases hbig : 300 < N
  · have d1 : (300 : Int) < (N : Int) := by omega
    go_wp2_with fail
    refine Calls.mono (Value_long a2 N c2 hbig w2) ?_
    rintro e w3 ⟨rfl, g3⟩
    dsimp only
    have H3 := Hid.of (H2.out.2.trans g3)
    clear g3 HD HJ
    go_wp2_with (with_reducible show wpList _ _ _ ({ dst := _, op := Op.store 23 _ _, type := _, pos := _, after := _, guard := _ } :: _) _ _; refine Shut.out ?_)
    show wpList _ _ _ _ _ _
    refine wpList_store_new 0 (by simp) rfl rfl rfl rfl (fun w4 hg4 hr4 _ => ?_)
    simp only [Act.put]
    generalize w3.heap.size = b6 at *
    have H4 := Hid.of (And.intro hr4 (H3.out.trans (Lain.of hg4)))
    clear H3 hg4 hr4
    refine wpList_val (.int .i64 2) rfl (by first | rfl | (go_simp; done)) ?_
    simp only [Act.put, List.setIfInBounds_toArray, List.set_cons_zero, List.set_cons_succ]
    apply wpList_nil
    go_wp2
    refine wp_region_noPanic ?_
    refine wp_region_held_drew (S := fun w' => w'.rangeAt b6 0 (yl 32 0) ∧ Lain w w') (by kernel_rfl) H4.out (fun hH => ?_)
    clear H4
    refine takeV 0 (.int .i64 2) rfl (by kernel_rfl) (by kernel_rfl) (by kernel_rfl) (fun _ _ _ h => h) (by rfl) (fun w _ => by first | rfl | (go_simp; done)) hH ?_
    simp only [Act.put, List.setIfInBounds_toArray, List.set_cons_zero, List.set_cons_succ]
    refine takeV 1 (.bool true) rfl (by kernel_rfl) (by kernel_rfl) (by kernel_rfl) (fun _ _ _ h => h) (by rfl) (fun w _ => by first | rfl | (go_simp; done)) hH ?_
    simp only [Act.put, List.setIfInBounds_toArray, List.set_cons_zero, List.set_cons_succ]
    refine takeV 2 (.bool true) rfl (by kernel_rfl) (by kernel_rfl) (by kernel_rfl) (fun _ _ _ h => h) (by rfl) (fun w _ => by first | rfl | (go_simp; done)) hH ?_
    simp only [Act.put, List.setIfInBounds_toArray, List.set_cons_zero, List.set_cons_succ]
    refine take32 3 (0) (b6) rfl (by kernel_rfl) (by kernel_rfl) (by kernel_rfl) (fun _ _ _ h => h) (by rfl) rfl rfl (fun _ h => h.1) hH ?_
    simp only [Act.put, List.setIfInBounds_toArray, List.set_cons_zero, List.set_cons_succ]
    refine step1 4 (by kernel_rfl) rfl (fun K hK => ?_)
    rw [if_pos (by rfl)]
    go_simp
    refine Calls.mono (number_nat 0 (by decide) 0 rfl _) ?_
    rintro e w5 ⟨rfl, hg5⟩
    dsimp only
    refine hK.out _ _ ⟨rangeAt_grown hH.1 hg5, hH.2.trans (Lain.of hg5)⟩ (fun hH => ?_)
    clear hK K
    refine takeV 5 (.bool true) rfl (by kernel_rfl) (by kernel_rfl) (by kernel_rfl) (fun _ _ _ h => h) (by rfl) (fun w _ => exec_eql_same rfl 0 0 rfl rfl (by decide) (by decide) rfl w) hH ?_
    simp only [Act.put, List.setIfInBounds_toArray, List.set_cons_zero, List.set_cons_succ]
    refine takeV 6 (.bool true) rfl (by kernel_rfl) (by kernel_rfl) (by kernel_rfl) (fun _ _ _ h => h) (by rfl) (fun w _ => by first | rfl | (go_simp; done)) hH ?_
    simp only [Act.put, List.setIfInBounds_toArray, List.set_cons_zero, List.set_cons_succ]
    refine takeV 7 (.bool true) rfl (by kernel_rfl) (by kernel_rfl) (by kernel_rfl) (fun _ _ _ h => h) (by rfl) (fun w _ => by first | rfl | (go_simp; done)) hH ?_
    simp only [Act.put, List.setIfInBounds_toArray, List.set_cons_zero, List.set_cons_succ]
    refine wpAnyH_done (by kernel_rfl) ?_ _
    refine NoPanic.normal ?_
    repeat go_step
    go_ret
    exact ⟨rfl, hH.2⟩
  · have hNl : N ≤ 300 := by omega
    have d1 : ¬ (300 : Int) < (N : Int) := by omega
    obtain ⟨V, hV⟩ : ∃ V, vf (down N (at8 (la ++ lb)) N) = V := ⟨_, rfl⟩
    obtain ⟨X, hX⟩ : ∃ X, vf (down la.length (at8 la) la.length) = X := ⟨_, rfl⟩
    obtain ⟨Y, hY⟩ : ∃ Y, vf (down lb.length (at8 lb) lb.length) = Y := ⟨_, rfl⟩
    rw [hV, hX, hY] at HJ
    have HVL : Hid (V < M ∧ X < M ∧ Y < M) := ⟨by rw [← hV]; exact Nat.lt_trans (vf_lt _) L_lt_M, by rw [← hX]; exact Nat.lt_trans (vf_lt _) L_lt_M, by rw [← hY]; exact Nat.lt_trans (vf_lt _) L_lt_M⟩
    have HV := Hid.of hV
    have HX := Hid.of hX
    have HY := Hid.of hY
    clear hV hX hY hbig
    go_wp2_with fail
    refine Calls.mono (Value_num a2 N c2 (at8 (la ++ lb)) hNl w2 (HT.out.lain H2.out.2) HD.out) ?_
    rintro e w3 ⟨rfl, g3⟩
    rw [HV.out]
    dsimp only
    have H3 := Hid.of (H2.out.2.trans g3)
    clear g3 HD H2
    go_wp2_with (with_reducible show wpList _ _ _ ({ dst := _, op := Op.store 23 _ _, type := _, pos := _, after := _, guard := _ } :: _) _ _; refine Shut.out ?_)
    show wpList _ _ _ _ _ _
    refine wpList_store_new V (by simp) rfl rfl rfl rfl (fun w4 hg4 hr4 _ => ?_)
    simp only [Act.put]
    have hb6 : w.heap.size ≤ w3.heap.size := H3.out.2.2.1
    have hs6 : w3.heap.size < w4.heap.size := range_lt hr4 (by rw [yl_length]; decide)
    generalize w3.heap.size = b6 at *
    have H4 := Hid.of (And.intro hr4 (H3.out.trans (Lain.of hg4)))
    clear H3 hg4 hr4
    refine wpList_val (.int .i64 0) rfl (by first | rfl | (go_simp; done)) ?_
    simp only [Act.put, List.setIfInBounds_toArray, List.set_cons_zero, List.set_cons_succ]
    apply wpList_nil
    go_wp2_with fail
    refine Calls.mono (Value_num aa la.length ca (at8 la) (by omega) w4 (HT.out.lain H4.out.2) (HA.out.lain H4.out.2).dig) ?_
    rintro e w5 ⟨rfl, g5⟩
    rw [HX.out]
    dsimp only
    have H5 := Hid.of (And.intro (g5.range H4.out.1) (H4.out.2.trans g5))
    have hz5 : w4.heap.size ≤ w5.heap.size := g5.2.2.1
    clear g5 H4
    go_wp2_with (with_reducible show wpList _ _ _ ({ dst := _, op := Op.store 23 _ _, type := _, pos := _, after := _, guard := _ } :: _) _ _; refine Shut.out ?_)
    show wpList _ _ _ _ _ _
    refine wpList_store_new X (by simp) rfl rfl rfl rfl (fun w6 hg6 hr6 _ => ?_)
    simp only [Act.put]
    have hb8 : b6 < w5.heap.size := by omega
    have hs8 : w5.heap.size < w6.heap.size := range_lt hr6 (by rw [yl_length]; decide)
    generalize w5.heap.size = b8 at *
    have H6 := Hid.of (And.intro (rangeAt_grown H5.out.1 hg6) (And.intro hr6 (H5.out.2.trans (Lain.of hg6))))
    clear H5 hg6 hr6
    refine wpList_val (.int .i64 0) rfl (by first | rfl | (go_simp; done)) ?_
    simp only [Act.put, List.setIfInBounds_toArray, List.set_cons_zero, List.set_cons_succ]
    apply wpList_nil
    go_wp2_with fail
    refine Calls.mono (Value_num ab lb.length cb (at8 lb) (by omega) w6 (HT.out.lain H6.out.2.2) (HB.out.lain H6.out.2.2).dig) ?_
    rintro e w7 ⟨rfl, g7⟩
    rw [HY.out]
    dsimp only
    have H7 := Hid.of (And.intro (g7.range H6.out.1) (And.intro (g7.range H6.out.2.1) (H6.out.2.2.trans g7)))
    have hz7 : w6.heap.size ≤ w7.heap.size := g7.2.2.1
    clear g7 H6
    go_wp2_with (with_reducible show wpList _ _ _ ({ dst := _, op := Op.store 23 _ _, type := _, pos := _, after := _, guard := _ } :: _) _ _; refine Shut.out ?_)
    show wpList _ _ _ _ _ _
    refine wpList_store_new Y (by simp) rfl rfl rfl rfl (fun w8 hg8 hr8 _ => ?_)
    simp only [Act.put]
    have hb10 : b8 < w7.heap.size := by omega
    have hs10 : w7.heap.size < w8.heap.size := range_lt hr8 (by rw [yl_length]; decide)
    generalize w7.heap.size = b10 at *
    have H8 := Hid.of (And.intro (rangeAt_grown H7.out.1 hg8) (And.intro (rangeAt_grown H7.out.2.1 hg8) (And.intro hr8 (H7.out.2.2.trans (Lain.of hg8)))))
    clear H7 hg8 hr8
    refine wpList_val (.int .i64 0) rfl (by first | rfl | (go_simp; done)) ?_
    simp only [Act.put, List.setIfInBounds_toArray, List.set_cons_zero, List.set_cons_succ]
    apply wpList_nil
    go_wp2_with fail
    refine Calls.mono (number_nat 1 (by decide) 1 rfl w8) ?_
    rintro e w9 ⟨rfl, hg9⟩
    dsimp only
    have H9 := Hid.of (And.intro (rangeAt_grown H8.out.1 hg9) (And.intro (rangeAt_grown H8.out.2.1 hg9) (And.intro (rangeAt_grown H8.out.2.2.1 hg9) (H8.out.2.2.2.trans (Lain.of hg9)))))
    have hz9 : w8.heap.size ≤ w9.heap.size := hg9.2.2
    clear hg9 H8
    go_wp2_with (with_reducible show wpList _ _ _ ({ dst := _, op := Op.store 23 _ _, type := _, pos := _, after := _, guard := _ } :: _) _ _; refine Shut.out ?_)
    show wpList _ _ _ _ _ _
    refine wpList_store_new 1 (by simp) rfl rfl rfl rfl (fun w10 hg10 hr10 ht10 => ?_)
    simp only [Act.put]
    have hb12 : b10 < w9.heap.size := by omega
    generalize w9.heap.size = b12 at *
    have HI : Hid (LY w w10 b6 b8 b10 b12 V X Y (2 ^ 0 % L)) := ⟨rangeAt_grown H9.out.1 hg10, rangeAt_grown H9.out.2.1 hg10, rangeAt_grown H9.out.2.2.1 hg10, hr10, ht10, H9.out.2.2.2.trans (Lain.of hg10)⟩
    clear H9 hg10 hr10 ht10
    apply wpList_nil
    go_wp2
    go_loopw [13] (fun v13 wr => ∃ i : Nat, v13 = .int .i64 (i : Int) ∧ i ≤ la.length ∧ Hid (LY w wr b6 b8 b10 b12 V X Y (2 ^ i % L))) (fun v13 _ => la.length - (intOf v13).toNat)
    case atStart => exact ⟨0, rfl, by omega, HI⟩
    case round =>
      obtain ⟨i, rfl, hi, hL⟩ := hrel
      by_cases hlt : i < la.length
      · have hlt' : (i : Int) < (la.length : Int) := by omega
        go_wp2_with (with_reducible show wpList _ _ _ ({ dst := _, op := Op.load 23 _, type := _, pos := _, after := _, guard := _ } :: _) _ _; refine Shut.out ?_)
        show wpList _ _ _ _ _ _
        refine wpList_load32 rfl _ rfl b12 rfl (2 ^ i % L) hL.out.r12 ?_
        simp only [Act.put, List.setIfInBounds_toArray, List.set_cons_zero, List.set_cons_succ]
        refine wpList_load32 rfl _ rfl b12 rfl (2 ^ i % L) hL.out.r12 ?_
        simp only [Act.put, List.setIfInBounds_toArray, List.set_cons_zero, List.set_cons_succ]
        obtain ⟨p, hp⟩ : ∃ p, 2 ^ i % L = p := ⟨_, rfl⟩
        have HS2 := Hid.of (two_step i)
        have hpM : p < M := by rw [← hp]; exact modL_ltM _
        rw [hp] at hL HS2
        rw [hp]
        clear hp
        go_wp2_with fail
        refine Calls.mono (Add_num p p hpM hpM wr (HT.out.lain hL.out.la)) ?_
        rintro e w11 ⟨rfl, hg11⟩
        rw [show sadd p p = 2 ^ (i + 1) % L from HS2.out]
        dsimp only
        have H11 : Hid (LY w w11 b6 b8 b10 b12 V X Y p) := ⟨rangeAt_grown hL.out.r6 hg11, rangeAt_grown hL.out.r8 hg11, rangeAt_grown hL.out.r10 hg11, rangeAt_grown hL.out.r12 hg11, there_grown hL.out.t12 hg11, hL.out.la.trans (Lain.of hg11)⟩
        clear hL hg11
        go_wp2_with (with_reducible show wpList _ _ _ ({ dst := _, op := Op.store 23 _ _, type := _, pos := _, after := _, guard := _ } :: _) _ _; refine Shut.out ?_)
        show wpList _ _ _ _ _ _
        refine wpList_store32 rfl _ _ rfl b12 (2 ^ (i + 1) % L) rfl rfl H11.out.t12 ?_
        simp only [Act.put]
        apply wpList_nil
        have H12 : Hid (LY w (w11.setCells b12 0 (yl 32 (2 ^ (i + 1) % L))) b6 b8 b10 b12 V X Y (2 ^ (i + 1) % L)) :=
          ⟨World.rangeAt_setCells_apart H11.out.r6 _ _ _ (.inl (by omega)), World.rangeAt_setCells_apart H11.out.r8 _ _ _ (.inl (by omega)), World.rangeAt_setCells_apart H11.out.r10 _ _ _ (.inl (by omega)), World.rangeAt_setCells_same _ _ _ _ (by rw [yl_length]; exact H11.out.t12), World.there_setCells H11.out.t12 _ _ _, H11.out.la.set (by omega) _⟩
        clear H11
        generalize (w11.setCells b12 0 (yl 32 (2 ^ (i + 1) % L))) = w12 at *
        go_wp2
        go_roundw
        case rel => exact ⟨i + 1, by go_num, by omega, H12⟩
        case measure => simp [intOf]; omega
      · obtain rfl : i = la.length := by omega
        obtain ⟨p, hp⟩ : ∃ p, 2 ^ la.length % L = p := ⟨_, rfl⟩
        have HP0 : Hid (p ≠ 0 ∧ p < M) := ⟨by rw [← hp]; exact two_mod _ (by omega), by rw [← hp]; exact modL_ltM _⟩
        rw [hp] at HJ hL
        clear hp
        go_wp2
        refine wp_region_noPanic ?_
        refine wp_region_held_drew (S := fun w' => LY w w' b6 b8 b10 b12 V X Y p) (by kernel_rfl) ⟨hL.out.r6, hL.out.r8, hL.out.r10, hL.out.r12, hL.out.t12, hL.out.la⟩ (fun hH => ?_)
        clear hL
        refine takeV 0 (.int .i64 0) rfl (by kernel_rfl) (by kernel_rfl) (by kernel_rfl) (fun _ _ _ h => h) (by rfl) (fun w _ => by first | rfl | (go_simp; done)) hH ?_
        simp only [Act.put, List.setIfInBounds_toArray, List.set_cons_zero, List.set_cons_succ]
        refine takeV 1 (.bool true) rfl (by kernel_rfl) (by kernel_rfl) (by kernel_rfl) (fun _ _ _ h => h) (by rfl) (fun w _ => by first | rfl | (go_simp; done)) hH ?_
        simp only [Act.put, List.setIfInBounds_toArray, List.set_cons_zero, List.set_cons_succ]
        refine takeV 2 (.bool true) rfl (by kernel_rfl) (by kernel_rfl) (by kernel_rfl) (fun _ _ _ h => h) (by rfl) (fun w _ => by first | rfl | (go_simp; done)) hH ?_
        simp only [Act.put, List.setIfInBounds_toArray, List.set_cons_zero, List.set_cons_succ]
        refine takeV 3 (.int .i64 0) rfl (by kernel_rfl) (by kernel_rfl) (by kernel_rfl) (fun _ _ _ h => h) (by rfl) (fun w _ => by first | rfl | (go_simp; done)) hH ?_
        simp only [Act.put, List.setIfInBounds_toArray, List.set_cons_zero, List.set_cons_succ]
        refine takeV 4 (.bool true) rfl (by kernel_rfl) (by kernel_rfl) (by kernel_rfl) (fun _ _ _ h => h) (by rfl) (fun w _ => by first | rfl | (go_simp; done)) hH ?_
        simp only [Act.put, List.setIfInBounds_toArray, List.set_cons_zero, List.set_cons_succ]
        refine takeV 5 (.bool true) rfl (by kernel_rfl) (by kernel_rfl) (by kernel_rfl) (fun _ _ _ h => h) (by rfl) (fun w _ => by first | rfl | (go_simp; done)) hH ?_
        simp only [Act.put, List.setIfInBounds_toArray, List.set_cons_zero, List.set_cons_succ]
        refine takeV 6 (.bool true) rfl (by kernel_rfl) (by kernel_rfl) (by kernel_rfl) (fun _ _ _ h => h) (by rfl) (fun w _ => by first | rfl | (go_simp; done)) hH ?_
        simp only [Act.put, List.setIfInBounds_toArray, List.set_cons_zero, List.set_cons_succ]
        refine takeV 7 (.int .i64 0) rfl (by kernel_rfl) (by kernel_rfl) (by kernel_rfl) (fun _ _ _ h => h) (by rfl) (fun w _ => by first | rfl | (go_simp; done)) hH ?_
        simp only [Act.put, List.setIfInBounds_toArray, List.set_cons_zero, List.set_cons_succ]
        refine takeV 8 (.bool true) rfl (by kernel_rfl) (by kernel_rfl) (by kernel_rfl) (fun _ _ _ h => h) (by rfl) (fun w _ => by first | rfl | (go_simp; done)) hH ?_
        simp only [Act.put, List.setIfInBounds_toArray, List.set_cons_zero, List.set_cons_succ]
        refine takeV 9 (.bool true) rfl (by kernel_rfl) (by kernel_rfl) (by kernel_rfl) (fun _ _ _ h => h) (by rfl) (fun w _ => by first | rfl | (go_simp; done)) hH ?_
        simp only [Act.put, List.setIfInBounds_toArray, List.set_cons_zero, List.set_cons_succ]
        refine takeV 10 (.bool true) rfl (by kernel_rfl) (by kernel_rfl) (by kernel_rfl) (fun _ _ _ h => h) (by rfl) (fun w _ => by first | rfl | (go_simp; done)) hH ?_
        simp only [Act.put, List.setIfInBounds_toArray, List.set_cons_zero, List.set_cons_succ]
        refine take32 11 (p) (b12) rfl (by kernel_rfl) (by kernel_rfl) (by kernel_rfl) (fun _ _ _ h => h) (by rfl) rfl rfl (fun _ h => h.r12) hH ?_
        simp only [Act.put, List.setIfInBounds_toArray, List.set_cons_zero, List.set_cons_succ]
        refine step1 12 (by kernel_rfl) rfl (fun K hK => ?_)
        rw [if_pos (by rfl)]
        go_simp
        refine Calls.mono (number_nat 0 (by decide) 0 rfl _) ?_
        rintro e w13 ⟨rfl, hg⟩
        dsimp only
        refine hK.out _ _ ⟨rangeAt_grown hH.r6 hg, rangeAt_grown hH.r8 hg, rangeAt_grown hH.r10 hg, rangeAt_grown hH.r12 hg, there_grown hH.t12 hg, hH.la.trans (Lain.of hg)⟩ (fun hH => ?_)
        clear hK K
        refine takeV 13 (.bool true) rfl (by kernel_rfl) (by kernel_rfl) (by kernel_rfl) (fun _ _ _ h => h) (by rfl) (fun w _ => exec_neq_apart rfl p 0 rfl rfl HP0.out.2 (by decide) HP0.out.1 w) hH ?_
        simp only [Act.put, List.setIfInBounds_toArray, List.set_cons_zero, List.set_cons_succ]
        refine takeV 14 (.bool true) rfl (by kernel_rfl) (by kernel_rfl) (by kernel_rfl) (fun _ _ _ h => h) (by rfl) (fun w _ => by first | rfl | (go_simp; done)) hH ?_
        simp only [Act.put, List.setIfInBounds_toArray, List.set_cons_zero, List.set_cons_succ]
        refine takeV 15 (.bool true) rfl (by kernel_rfl) (by kernel_rfl) (by kernel_rfl) (fun _ _ _ h => h) (by rfl) (fun w _ => by first | rfl | (go_simp; done)) hH ?_
        simp only [Act.put, List.setIfInBounds_toArray, List.set_cons_zero, List.set_cons_succ]
        refine take32 16 (V) (b6) rfl (by kernel_rfl) (by kernel_rfl) (by kernel_rfl) (fun _ _ _ h => h) (by rfl) rfl rfl (fun _ h => h.r6) hH ?_
        simp only [Act.put, List.setIfInBounds_toArray, List.set_cons_zero, List.set_cons_succ]
        refine take32 17 (p) (b12) rfl (by kernel_rfl) (by kernel_rfl) (by kernel_rfl) (fun _ _ _ h => h) (by rfl) rfl rfl (fun _ h => h.r12) hH ?_
        simp only [Act.put, List.setIfInBounds_toArray, List.set_cons_zero, List.set_cons_succ]
        refine take32 18 (Y) (b10) rfl (by kernel_rfl) (by kernel_rfl) (by kernel_rfl) (fun _ _ _ h => h) (by rfl) rfl rfl (fun _ h => h.r10) hH ?_
        simp only [Act.put, List.setIfInBounds_toArray, List.set_cons_zero, List.set_cons_succ]
        refine take32 19 (X) (b8) rfl (by kernel_rfl) (by kernel_rfl) (by kernel_rfl) (fun _ _ _ h => h) (by rfl) rfl rfl (fun _ h => h.r8) hH ?_
        simp only [Act.put, List.setIfInBounds_toArray, List.set_cons_zero, List.set_cons_succ]
        refine step1 20 (by kernel_rfl) rfl (fun K hK => ?_)
        rw [if_pos (by rfl)]
        go_simp
        refine Calls.mono (MulAdd_num p Y X HP0.out.2 HVL.out.2.2 HVL.out.2.1 _ (HT.out.lain hH.la)) ?_
        rintro e w14 ⟨rfl, hg⟩
        rw [← HJ.out]
        dsimp only
        refine hK.out _ _ ⟨rangeAt_grown hH.r6 hg, rangeAt_grown hH.r8 hg, rangeAt_grown hH.r10 hg, rangeAt_grown hH.r12 hg, there_grown hH.t12 hg, hH.la.trans (Lain.of hg)⟩ (fun hH => ?_)
        clear hK K
        refine takeV 21 (.bool true) rfl (by kernel_rfl) (by kernel_rfl) (by kernel_rfl) (fun _ _ _ h => h) (by rfl) (fun w _ => exec_eql_same rfl V V rfl rfl HVL.out.1 HVL.out.1 rfl w) hH ?_
        simp only [Act.put, List.setIfInBounds_toArray, List.set_cons_zero, List.set_cons_succ]
        refine takeV 22 (.bool true) rfl (by kernel_rfl) (by kernel_rfl) (by kernel_rfl) (fun _ _ _ h => h) (by rfl) (fun w _ => by first | rfl | (go_simp; done)) hH ?_
        simp only [Act.put, List.setIfInBounds_toArray, List.set_cons_zero, List.set_cons_succ]
        refine takeV 23 (.bool true) rfl (by kernel_rfl) (by kernel_rfl) (by kernel_rfl) (fun _ _ _ h => h) (by rfl) (fun w _ => by first | rfl | (go_simp; done)) hH ?_
        simp only [Act.put, List.setIfInBounds_toArray, List.set_cons_zero, List.set_cons_succ]
        refine wpAnyH_done (by kernel_rfl) ?_ _
        refine NoPanic.normal ?_
        repeat go_step
        go_ret
        exact ⟨rfl, hH.la⟩
end Go.Proofs.YteijccjdejjbjaaDoor
