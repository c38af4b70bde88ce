import Derived.Test.YtkaoalcffgnfeaaGreatDoorYf
import Derived.WalkMore
namespace Go.Proofs.YtkaoalcffgnfeaaGreatDoor
open Go.RowKit TextNum
theorem cutLine_at (ad : Nat → Addr) {a : Option Addr} {n c : Nat} {ds : List UInt8} (most : Nat) (z : Int) (hz : z = (most : Int)) (hmo : most ≤ 1048576) (w : World) (hS : Sb w (.slice a n c) ds) (h : GE w ad) : Calls Tryz.prog 98 #[.slice a n c, .int .i64 z] w fun e w' => e = .returned (clR ad a c (cutL most ds)) ∧ Up w w' := by
 subst hz
 exact cutLine_walk ad most hmo w hS h
def mR (ad : Nat → Addr) : Er (Nat × Nat) → Value
 | .error k => .tuple #[.int .i64 0, .int .i64 0, ev (ad k)]
 | .ok (f, a) => .tuple #[.int .i64 (f : Int), .int .i64 (a : Int), .nilIface]
set_option maxRecDepth 100000 in
set_option maxHeartbeats 1000000 in
theorem measureFields_walk (ad : Nat → Addr) {a : Option Addr} {n c : Nat} {ds : List UInt8} (w : World) (hS : Sb w (.slice a n c) ds) (h : GE w ad) : Calls Tryz.prog 102 #[.slice a n c] w fun e w' => e = .returned (mR ad (mF ds)) ∧ Up w w' := by
 have HG := Ho h
 clear h
 obtain ⟨hn, hnc, hcm⟩ := hS.len
 unfold maxLen at hcm
 have HN := Ho hn
 have hSn : Sb w (.slice a ds.length c) ds := by rw [← hn]; exact hS
 clear hn hS
 obtain ⟨D, hD⟩ := ny (ds.take 16384)
 go_enter Tryz.func102, Tryz.ntmps102
 by_cases hlt : n ≤ 16384
 · have hltz : (n : Int) ≤ 16384 := by omega
   have hnot : ¬ (16384 : Int) < (n : Int) := by omega
   have hnz : (n : Int) ≤ (c : Int) := by omega
   obtain ⟨m, hm⟩ := ny n
   have hmc : m ≤ c := by omega
   have HM := Ho (show m = D.length by rw [← hD, List.length_take, ← HN.o, ← hm]; omega)
   have HSb := Ho (show Sb w (.slice a m c) D by rw [← hD, List.take_of_length_le (by rw [← HN.o]; omega), ← hm, HN.o]; exact hSn)
   have HF := Ho (show mfl (ds.length + 1) (ds.take 16384) = mfl (m + 1) D by rw [hD]; exact mfl_fuel _ _ _ (by rw [← HM.o, ← HN.o]; omega) (by rw [← HM.o]; omega))
   subst hm
   clear hSn hD
   go_wp2
   go_step3
   go_wp2
   go_step3
   go_wp2
   go_loopw [2] (fun v2 wr => ∃ f : Nat, v2 = .int .i64 (f : Int) ∧ f ≤ n ∧ Hd (Up w wr ∧ mfl (n + 1) D = (mfl (n - f + 1) (D.drop f)).map fun p => (f + p.1, f + p.2))) (fun v2 _ => n - (intOf v2).toNat)
   case atStart => exact ⟨0, rfl, Nat.zero_le _, Ho ⟨Up.refl _, by simp⟩⟩
   case round =>
    obtain ⟨f, rfl, hf, hQ⟩ := hrel
    have HQ := Ho hQ.o
    clear hQ
    have hfz : (f : Int) ≤ (n : Int) := by omega
    have hSf := (HSb.o.up HQ.o.1).sub f n hf (by rw [← HM.o]; exact Nat.le_refl _)
    rw [show (D.take n).drop f = D.drop f by rw [HM.o, List.take_length]] at hSf
    unfold sv at hSf
    by_cases hcf : c = f
    · rw [if_pos hcf, show c - f = 0 by omega] at hSf
      have HCL := Ho (cutLine_at ad 16384 16384 (by decide) (by decide) wr hSf (HG.o.up HQ.o.1))
      clear hSf
      go_wp2_with fail
      refine HCL.o.mono ?_
      rintro e w9 ⟨rfl, h9⟩
      have HU9 := Ho (HQ.o.1.trans h9)
      clear h9 HCL
      cases hc : cutL 16384 (D.drop f) with
      | error k =>
       have HE := Ho (show mR ad (mF ds) = mR ad (.error 2) by
        unfold mF
        rw [HF.o, HQ.o.2, mfl, hc]
        dsimp only [Option.map]
        rw [if_neg (by rw [← HN.o]; omega)])
       unfold clR
       dsimp only
       go_wp2
       refine wp_region_held_drew (S := fun w2 => GE w2 ad ∧ Up w w2) (by kernel_rfl) ⟨HG.o.up HU9.o.drew, HU9.o.drew⟩ (fun hS => ?_)
       refine tK 0 (some 40) (.load 73 (.global 15)) 73 (ev (ad 2)) hS ?_ ?_
       · intro _ _ w5 hSw
         have hgl : w5.cell? ⟨15, 0, none⟩ = _ := hSw.1.gl 2 (by decide)
         clear hSw hS
         go_simp
       simp only [Act.put, pB, pC, pD]
       refine tN 1 (some 2) (.assign (.const (.int .i64 0))) 3 (.int .i64 0) hS ?_
       simp only [pA, pB, pC, pD]
       refine tN 2 (some 3) (.assign (.const (.int .i64 0))) 3 (.int .i64 0) hS ?_
       simp only [pA, pB, pC, pD]
       refine tN 3 (some 4) (.assign (.tmp 40)) 73 (ev (ad 2)) hS ?_
       simp only [pA, pB, pC, pD]
       refine wpAnyH_done (by kernel_rfl) ?_ _
       have HS2 := Ho hS.2
       clear hS
       go_wp2
       try rw [Exit.noGoto_ret]
       go_ret3
       rw [HE.o]
       exact ⟨rfl, HS2.o⟩
      | ok q =>
       obtain ⟨ln, k⟩ := q
       have hck := cutL_ok hc
       rw [List.length_drop, ← HM.o] at hck
       unfold clR
       dsimp only
       obtain ⟨ll, hll⟩ := ny ln.length
       rw [hll]
       have hk1 : 0 < k := hck.1
       have hk2 : k ≤ n - f := hck.2.1
       by_cases h0 : ln = []
       · have hz : ((ll : Int) == 0) = true := by rw [← hll, h0]; rfl
         have HE := Ho (show mR ad (mF ds) = .tuple #[.int .i64 (f : Int), .int .i64 ((f + k : Nat) : Int), .nilIface] by
          unfold mF
          rw [HF.o, HQ.o.2, mfl, hc]
          dsimp only
          rw [if_pos h0]
          rfl)
         clear hck hll
         go_wp2
         try rw [Exit.noGoto_ret]
         go_ret3
         rw [HE.o]
         exact ⟨by first | rfl | simp, HU9.o⟩
       · have hz : ((ll : Int) == 0) = false := by
          rw [beq_eq_false_iff_ne]
          intro e
          exact h0 (List.eq_nil_of_length_eq_zero (by omega))
         have HNx := Ho (show mfl (n + 1) D = (mfl (n - (f + k) + 1) (D.drop (f + k))).map fun p => (f + k + p.1, f + k + p.2) by
          rw [HQ.o.2, mfl, hc]
          dsimp only
          rw [if_neg h0, List.drop_drop, mfl_fuel (n - f) (n - (f + k) + 1) (D.drop (f + k)) (by rw [List.length_drop, ← HM.o]; omega) (by rw [List.length_drop, ← HM.o]; omega)]
          cases mfl (n - (f + k) + 1) (D.drop (f + k)) with
          | none => rfl
          | some p => simp [Nat.add_assoc])
         clear hck hll
         go_wp2
         go_roundw
         all_goals first
          | exact ⟨f + k, by go_num, by omega, Ho ⟨HU9.o, HNx.o⟩⟩
          | (simp [intOf]; omega)
    · rw [if_neg hcf] at hSf
      have HCL := Ho (cutLine_at ad 16384 16384 (by decide) (by decide) wr hSf (HG.o.up HQ.o.1))
      clear hSf
      go_wp2_with fail
      refine HCL.o.mono ?_
      rintro e w9 ⟨rfl, h9⟩
      have HU9 := Ho (HQ.o.1.trans h9)
      clear h9 HCL
      cases hc : cutL 16384 (D.drop f) with
      | error k =>
       have HE := Ho (show mR ad (mF ds) = mR ad (.error 2) by
        unfold mF
        rw [HF.o, HQ.o.2, mfl, hc]
        dsimp only [Option.map]
        rw [if_neg (by rw [← HN.o]; omega)])
       unfold clR
       dsimp only
       go_wp2
       refine wp_region_held_drew (S := fun w2 => GE w2 ad ∧ Up w w2) (by kernel_rfl) ⟨HG.o.up HU9.o.drew, HU9.o.drew⟩ (fun hS => ?_)
       refine tK 0 (some 40) (.load 73 (.global 15)) 73 (ev (ad 2)) hS ?_ ?_
       · intro _ _ w5 hSw
         have hgl : w5.cell? ⟨15, 0, none⟩ = _ := hSw.1.gl 2 (by decide)
         clear hSw hS
         go_simp
       simp only [pA, pB, pC, pD]
       refine tN 1 (some 2) (.assign (.const (.int .i64 0))) 3 (.int .i64 0) hS ?_
       simp only [pA, pB, pC, pD]
       refine tN 2 (some 3) (.assign (.const (.int .i64 0))) 3 (.int .i64 0) hS ?_
       simp only [pA, pB, pC, pD]
       refine tN 3 (some 4) (.assign (.tmp 40)) 73 (ev (ad 2)) hS ?_
       simp only [pA, pB, pC, pD]
       refine wpAnyH_done (by kernel_rfl) ?_ _
       have HS2 := Ho hS.2
       clear hS
       go_wp2
       try rw [Exit.noGoto_ret]
       go_ret3
       rw [HE.o]
       exact ⟨rfl, HS2.o⟩
      | ok q =>
       obtain ⟨ln, k⟩ := q
       have hck := cutL_ok hc
       rw [List.length_drop, ← HM.o] at hck
       unfold clR
       dsimp only
       obtain ⟨ll, hll⟩ := ny ln.length
       rw [hll]
       have hk1 : 0 < k := hck.1
       have hk2 : k ≤ n - f := hck.2.1
       by_cases h0 : ln = []
       · have hz : ((ll : Int) == 0) = true := by rw [← hll, h0]; rfl
         have HE := Ho (show mR ad (mF ds) = .tuple #[.int .i64 (f : Int), .int .i64 ((f + k : Nat) : Int), .nilIface] by
          unfold mF
          rw [HF.o, HQ.o.2, mfl, hc]
          dsimp only
          rw [if_pos h0]
          rfl)
         clear hck hll
         go_wp2
         try rw [Exit.noGoto_ret]
         go_ret3
         rw [HE.o]
         exact ⟨by first | rfl | simp, HU9.o⟩
       · have hz : ((ll : Int) == 0) = false := by
          rw [beq_eq_false_iff_ne]
          intro e
          exact h0 (List.eq_nil_of_length_eq_zero (by omega))
         have HNx := Ho (show mfl (n + 1) D = (mfl (n - (f + k) + 1) (D.drop (f + k))).map fun p => (f + k + p.1, f + k + p.2) by
          rw [HQ.o.2, mfl, hc]
          dsimp only
          rw [if_neg h0, List.drop_drop, mfl_fuel (n - f) (n - (f + k) + 1) (D.drop (f + k)) (by rw [List.length_drop, ← HM.o]; omega) (by rw [List.length_drop, ← HM.o]; omega)]
          cases mfl (n - (f + k) + 1) (D.drop (f + k)) with
          | none => rfl
          | some p => simp [Nat.add_assoc])
         clear hck hll
         go_wp2
         go_roundw
         all_goals first
          | exact ⟨f + k, by go_num, by omega, Ho ⟨HU9.o, HNx.o⟩⟩
          | (simp [intOf]; omega)
 · have hltz : ¬ (n : Int) ≤ 16384 := by omega
   have hnot : (16384 : Int) < (n : Int) := by omega
   have hnz : (16384 : Int) ≤ (c : Int) := by omega
   obtain ⟨m, hm⟩ := ny 16384
   have hmc : m ≤ c := by omega
   have HM := Ho (show m = D.length by rw [← hD, List.length_take, ← HN.o, ← hm]; omega)
   have HSb := Ho (show Sb w (.slice a m c) D by rw [← hD, ← hm]; exact hSn.take 16384 (by rw [← HN.o]; omega))
   have HF := Ho (show mfl (ds.length + 1) (ds.take 16384) = mfl (m + 1) D by rw [hD]; exact mfl_fuel _ _ _ (by rw [← HM.o, ← HN.o]; omega) (by rw [← HM.o]; omega))
   subst hm
   clear hSn hD
   go_wp2
   go_step3
   go_wp2
   go_step3
   go_wp2
   go_loopw [2] (fun v2 wr => ∃ f : Nat, v2 = .int .i64 (f : Int) ∧ f ≤ 16384 ∧ Hd (Up w wr ∧ mfl (16384 + 1) D = (mfl (16384 - f + 1) (D.drop f)).map fun p => (f + p.1, f + p.2))) (fun v2 _ => 16384 - (intOf v2).toNat)
   case atStart => exact ⟨0, rfl, Nat.zero_le _, Ho ⟨Up.refl _, by simp⟩⟩
   case round =>
    obtain ⟨f, rfl, hf, hQ⟩ := hrel
    have HQ := Ho hQ.o
    clear hQ
    have hfz : (f : Int) ≤ (16384 : Int) := by omega
    have hSf := (HSb.o.up HQ.o.1).sub f 16384 hf (by rw [← HM.o]; exact Nat.le_refl _)
    rw [show (D.take 16384).drop f = D.drop f by rw [HM.o, List.take_length]] at hSf
    unfold sv at hSf
    by_cases hcf : c = f
    case' _ =>
     rw [if_pos hcf, show c - f = 0 by omega] at hSf
    rotate_left
    case' _ =>
     rw [if_neg hcf] at hSf
    all_goals
     have HCL := Ho (cutLine_at ad 16384 16384 (by decide) (by decide) wr hSf (HG.o.up HQ.o.1))
     clear hSf
     go_wp2_with fail
     refine HCL.o.mono ?_
     rintro e w9 ⟨rfl, h9⟩
     have HU9 := Ho (HQ.o.1.trans h9)
     clear h9 HCL
     cases hc : cutL 16384 (D.drop f) with
     | error k =>
      have HE := Ho (show mR ad (mF ds) = mR ad (.error 1) by
       unfold mF
       rw [HF.o, HQ.o.2, mfl, hc]
       dsimp only [Option.map]
       rw [if_pos (by rw [← HN.o]; omega)])
      unfold clR
      dsimp only
      go_wp2
      refine wp_region_held_drew (S := fun w2 => GE w2 ad ∧ Up w w2) (by kernel_rfl) ⟨HG.o.up HU9.o.drew, HU9.o.drew⟩ (fun hS => ?_)
      refine tK 0 (some 39) (.load 73 (.global 2)) 73 (ev (ad 1)) hS ?_ ?_
      · intro _ _ w5 hSw
        have hgl : w5.cell? ⟨2, 0, none⟩ = _ := hSw.1.gl 1 (by decide)
        clear hSw hS
        go_simp
      simp only [pA, pB, pC, pD]
      refine tN 1 (some 2) (.assign (.const (.int .i64 0))) 3 (.int .i64 0) hS ?_
      simp only [pA, pB, pC, pD]
      refine tN 2 (some 3) (.assign (.const (.int .i64 0))) 3 (.int .i64 0) hS ?_
      simp only [pA, pB, pC, pD]
      refine tN 3 (some 4) (.assign (.tmp 39)) 73 (ev (ad 1)) hS ?_
      simp only [pA, pB, pC, pD]
      refine wpAnyH_done (by kernel_rfl) ?_ _
      have HS2 := Ho hS.2
      clear hS
      go_wp2
      try rw [Exit.noGoto_ret]
      go_ret3
      rw [HE.o]
      exact ⟨rfl, HS2.o⟩
     | ok q =>
      obtain ⟨ln, k⟩ := q
      have hck := cutL_ok hc
      rw [List.length_drop, ← HM.o] at hck
      unfold clR
      dsimp only
      obtain ⟨ll, hll⟩ := ny ln.length
      rw [hll]
      have hk1 : 0 < k := hck.1
      have hk2 : k ≤ 16384 - f := hck.2.1
      by_cases h0 : ln = []
      · have hz : ((ll : Int) == 0) = true := by rw [← hll, h0]; rfl
        have HE := Ho (show mR ad (mF ds) = .tuple #[.int .i64 (f : Int), .int .i64 ((f + k : Nat) : Int), .nilIface] by
         unfold mF
         rw [HF.o, HQ.o.2, mfl, hc]
         dsimp only
         rw [if_pos h0]
         rfl)
        clear hck hll
        go_wp2
        try rw [Exit.noGoto_ret]
        go_ret3
        rw [HE.o]
        exact ⟨by first | rfl | simp, HU9.o⟩
      · have hz : ((ll : Int) == 0) = false := by
         rw [beq_eq_false_iff_ne]
         intro e
         exact h0 (List.eq_nil_of_length_eq_zero (by omega))
        have HNx := Ho (show mfl (16384 + 1) D = (mfl (16384 - (f + k) + 1) (D.drop (f + k))).map fun p => (f + k + p.1, f + k + p.2) by
         rw [HQ.o.2, mfl, hc]
         dsimp only
         rw [if_neg h0, List.drop_drop, mfl_fuel (16384 - f) (16384 - (f + k) + 1) (D.drop (f + k)) (by rw [List.length_drop, ← HM.o]; omega) (by rw [List.length_drop, ← HM.o]; omega)]
         cases mfl (16384 - (f + k) + 1) (D.drop (f + k)) with
         | none => rfl
         | some p => simp [Nat.add_assoc])
        clear hck hll
        go_wp2
        go_roundw
        all_goals first
         | exact ⟨f + k, by go_num, by omega, Ho ⟨HU9.o, HNx.o⟩⟩
         | (simp [intOf]; omega)
end Go.Proofs.YtkaoalcffgnfeaaGreatDoor
