import Derived.Test.YtehnnlhoajdcaaaGreatDoorYf
import Derived.WalkMore
namespace Go.Proofs.YtehnnlhoajdcaaaGreatDoor
open Go.RowKit TextNum
theorem cutLine_at (ad : Nat → Addr) {a : Option Addr} {n c : Nat} {ds : List UInt8} (most : Nat) (z : Int) (hz : z = (most : Int)) (hmo : most ≤ 1048576) (w : World) (hS : Sb w (.slice a n c) ds) (h : GE w ad) : Calls Tryz.prog 124 #[.slice a n c, .int .i64 z] w fun e w' => e = .returned (clR ad a c (cutL most ds)) ∧ Up w w' := by
 subst hz
 exact cutLine_walk ad most hmo w hS h
def mR (ad : Nat → Addr) : Er (Nat × Nat) → Value
 | .error k => .tuple #[.int .i64 0, .int .i64 0, ev (ad k)]
 | .ok (f, a) => .tuple #[.int .i64 (f : Int), .int .i64 (a : Int), .nilIface]
set_option maxRecDepth 100000 in
set_option maxHeartbeats 1000000 in
theorem measureFields_walk (ad : Nat → Addr) {a : Option Addr} {n c : Nat} {ds : List UInt8} (w : World) (hS : Sb w (.slice a n c) ds) (h : GE w ad) : Calls Tryz.prog 146 #[.slice a n c] w fun e w' => e = .returned (mR ad (mF ds)) ∧ Up w w' := by
 have HG := Ho h
 clear h
 obtain ⟨hn, hnc, hcm⟩ := hS.len
 unfold maxLen at hcm
 have HN := Ho hn
 have hSn : Sb w (.slice a ds.length c) ds := by rw [← hn]; exact hS
 clear hn hS
 obtain ⟨D, hD⟩ := ny (ds.take 16384)
 go_enter Tryz.func146, Tryz.ntmps146
 by_cases hlt : n ≤ 16384
 · have hltz : (n : Int) ≤ 16384 := by omega
   have hnot : ¬ (16384 : Int) < (n : Int) := by omega
   have hnz : (n : Int) ≤ (c : Int) := by omega
   obtain ⟨m, hm⟩ := ny n
   have hmc : m ≤ c := by omega
   have HM := Ho (show m = D.length by rw [← hD, List.length_take, ← HN.o, ← hm]; omega)
   have HSb := Ho (show Sb w (.slice a m c) D by rw [← hD, List.take_of_length_le (by rw [← HN.o]; omega), ← hm, HN.o]; exact hSn)
   have HF := Ho (show mfl (ds.length + 1) (ds.take 16384) = mfl (m + 1) D by rw [hD]; exact mfl_fuel _ _ _ (by rw [← HM.o, ← HN.o]; omega) (by rw [← HM.o]; omega))
   subst hm
   clear hSn hD
   go_wp2
   go_step3
   go_wp2
   go_step3
   go_wp2
   go_loopw [2] (fun v2 wr => ∃ f : Nat, v2 = .int .i64 (f : Int) ∧ f ≤ n ∧ Hd (Up w wr ∧ mfl (n + 1) D = (mfl (n - f + 1) (D.drop f)).map fun p => (f + p.1, f + p.2))) (fun v2 _ => n - (intOf v2).toNat)
   case atStart => exact ⟨0, rfl, Nat.zero_le _, Ho ⟨Up.refl _, by simp⟩⟩
   case round =>
    obtain ⟨f, rfl, hf, hQ⟩ := hrel
    have HQ := Ho hQ.o
    clear hQ
    have hfz : (f : Int) ≤ (n : Int) := by omega
    have hSf := (HSb.o.up HQ.o.1).sub f n hf (by rw [← HM.o]; exact Nat.le_refl _)
    rw [show (D.take n).drop f = D.drop f by rw [HM.o, List.take_length]] at hSf
    unfold sv at hSf
    by_cases hcf : c = f
    case' _ =>
     rw [if_pos hcf, show c - f = 0 by omega] at hSf
    rotate_left
    case' _ =>
     rw [if_neg hcf] at hSf
    all_goals
     have HCL := Ho (cutLine_at ad 16384 16384 (by decide) (by decide) wr hSf (HG.o.up HQ.o.1))
     clear hSf
     go_wp2_with fail
     refine HCL.o.mono ?_
     rintro e w9 ⟨rfl, h9⟩
     have HU9 := Ho (HQ.o.1.trans h9)
     clear h9 HCL
     cases hc : cutL 16384 (D.drop f) with
     | error k =>
      have HE := Ho (show mR ad (mF ds) = mR ad (.error 2) by
       unfold mF
       rw [HF.o, HQ.o.2, mfl, hc]
       dsimp only [Option.map]
       rw [if_neg (by rw [← HN.o]; omega)])
      unfold clR
      dsimp only
      go_wp2
      refine wp_region_held_drew (S := fun w2 => GE w2 ad ∧ Up w w2) (by kernel_rfl) ⟨HG.o.up HU9.o.drew, HU9.o.drew⟩ (fun hS => ?_)
      refine tK 0 (some 40) (.load 106 (.global 17)) 106 (ev (ad 2)) hS ?_ ?_
      · intro _ _ w5 hSw
        have hgl : w5.cell? ⟨17, 0, none⟩ = _ := hSw.1.gl 2 (by decide)
        clear hSw hS
        go_simp
      simp only [Act.put, pB, pC, pD]
      refine tN 1 (some 2) (.assign (.const (.int .i64 0))) 3 (.int .i64 0) hS ?_
      simp only [Act.put, pB, pC, pD]
      refine tN 2 (some 3) (.assign (.const (.int .i64 0))) 3 (.int .i64 0) hS ?_
      simp only [Act.put, pB, pC, pD]
      refine tN 3 (some 4) (.assign (.tmp 40)) 106 (ev (ad 2)) hS ?_
      simp only [Act.put, pB, pC, pD]
      refine wpAnyH_done (by kernel_rfl) ?_ _
      have HS2 := Ho hS.2
      clear hS
      go_wp2
      try rw [Exit.noGoto_ret]
      go_ret3
      rw [HE.o]
      exact ⟨rfl, HS2.o⟩
     | ok q =>
      obtain ⟨ln, k⟩ := q
      have hck := cutL_ok hc
      rw [List.length_drop, ← HM.o] at hck
      unfold clR
      dsimp only
      obtain ⟨ll, hll⟩ := ny ln.length
      rw [hll]
      have hk1 : 0 < k := hck.1
      have hk2 : k ≤ n - f := hck.2.1
      by_cases h0 : ln = []
      · have hz : ((ll : Int) == 0) = true := by rw [← hll, h0]; rfl
        have HE := Ho (show mR ad (mF ds) = .tuple #[.int .i64 (f : Int), .int .i64 ((f + k : Nat) : Int), .nilIface] by
         unfold mF
         rw [HF.o, HQ.o.2, mfl, hc]
         dsimp only
         rw [if_pos h0]
         rfl)
        clear hck hll
        go_wp2
        try rw [Exit.noGoto_ret]
        go_ret3
        rw [HE.o]
        exact ⟨by first | rfl | simp, HU9.o⟩
      have hz : ((ll : Int) == 0) = false := by
       rw [beq_eq_false_iff_ne]
       intro e
       exact h0 (List.eq_nil_of_length_eq_zero (by omega))
      have HNx := Ho (show mfl (n + 1) D = (mfl (n - (f + k) + 1) (D.drop (f + k))).map fun p => (f + k + p.1, f + k + p.2) by
       rw [HQ.o.2, mfl, hc]
       dsimp only
       rw [if_neg h0, List.drop_drop, mfl_fuel (n - f) (n - (f + k) + 1) (D.drop (f + k)) (by rw [List.length_drop, ← HM.o]; omega) (by rw [List.length_drop, ← HM.o]; omega)]
       cases mfl (n - (f + k) + 1) (D.drop (f + k)) with
       | none => rfl
       | some p => simp [Nat.add_assoc])
      clear hck hll
      go_wp2
      go_roundw
      all_goals first
       | exact ⟨f + k, by go_num, by omega, Ho ⟨HU9.o, HNx.o⟩⟩
       | (simp [intOf]; omega)
 have hltz : ¬ (n : Int) ≤ 16384 := by omega
 have hnot : (16384 : Int) < (n : Int) := by omega
 have hnz : (16384 : Int) ≤ (c : Int) := by omega
 obtain ⟨m, hm⟩ := ny 16384
 have hmc : m ≤ c := by omega
 have HM := Ho (show m = D.length by rw [← hD, List.length_take, ← HN.o, ← hm]; omega)
 have HSb := Ho (show Sb w (.slice a m c) D by rw [← hD, ← hm]; exact hSn.take 16384 (by rw [← HN.o]; omega))
 have HF := Ho (show mfl (ds.length + 1) (ds.take 16384) = mfl (m + 1) D by rw [hD]; exact mfl_fuel _ _ _ (by rw [← HM.o, ← HN.o]; omega) (by rw [← HM.o]; omega))
 subst hm
 clear hSn hD
 go_wp2
 go_step3
 go_wp2
 go_step3
 go_wp2
 go_loopw [2] (fun v2 wr => ∃ f : Nat, v2 = .int .i64 (f : Int) ∧ f ≤ 16384 ∧ Hd (Up w wr ∧ mfl (16384 + 1) D = (mfl (16384 - f + 1) (D.drop f)).map fun p => (f + p.1, f + p.2))) (fun v2 _ => 16384 - (intOf v2).toNat)
 case atStart => exact ⟨0, rfl, Nat.zero_le _, Ho ⟨Up.refl _, by simp⟩⟩
 case round =>
  obtain ⟨f, rfl, hf, hQ⟩ := hrel
  have HQ := Ho hQ.o
  clear hQ
  have hfz : (f : Int) ≤ (16384 : Int) := by omega
  have hSf := (HSb.o.up HQ.o.1).sub f 16384 hf (by rw [← HM.o]; exact Nat.le_refl _)
  rw [show (D.take 16384).drop f = D.drop f by rw [HM.o, List.take_length]] at hSf
  unfold sv at hSf
  by_cases hcf : c = f
  case' _ =>
   rw [if_pos hcf, show c - f = 0 by omega] at hSf
  rotate_left
  case' _ =>
   rw [if_neg hcf] at hSf
  all_goals
   have HCL := Ho (cutLine_at ad 16384 16384 (by decide) (by decide) wr hSf (HG.o.up HQ.o.1))
   clear hSf
   go_wp2_with fail
   refine HCL.o.mono ?_
   rintro e w9 ⟨rfl, h9⟩
   have HU9 := Ho (HQ.o.1.trans h9)
   clear h9 HCL
   cases hc : cutL 16384 (D.drop f) with
   | error k =>
    have HE := Ho (show mR ad (mF ds) = mR ad (.error 1) by
     unfold mF
     rw [HF.o, HQ.o.2, mfl, hc]
     dsimp only [Option.map]
     rw [if_pos (by rw [← HN.o]; omega)])
    unfold clR
    dsimp only
    go_wp2
    refine wp_region_held_drew (S := fun w2 => GE w2 ad ∧ Up w w2) (by kernel_rfl) ⟨HG.o.up HU9.o.drew, HU9.o.drew⟩ (fun hS => ?_)
    refine tK 0 (some 39) (.load 106 (.global 2)) 106 (ev (ad 1)) hS ?_ ?_
    · intro _ _ w5 hSw
      have hgl : w5.cell? ⟨2, 0, none⟩ = _ := hSw.1.gl 1 (by decide)
      clear hSw hS
      go_simp
    simp only [pA, pB, pC, pD]
    refine tN 1 (some 2) (.assign (.const (.int .i64 0))) 3 (.int .i64 0) hS ?_
    simp only [pA, pB, pC, pD]
    refine tN 2 (some 3) (.assign (.const (.int .i64 0))) 3 (.int .i64 0) hS ?_
    simp only [pA, pB, pC, pD]
    refine tN 3 (some 4) (.assign (.tmp 39)) 106 (ev (ad 1)) hS ?_
    simp only [pA, pB, pC, pD]
    refine wpAnyH_done (by kernel_rfl) ?_ _
    have HS2 := Ho hS.2
    clear hS
    go_wp2
    try rw [Exit.noGoto_ret]
    go_ret3
    rw [HE.o]
    exact ⟨rfl, HS2.o⟩
   | ok q =>
    obtain ⟨ln, k⟩ := q
    have hck := cutL_ok hc
    rw [List.length_drop, ← HM.o] at hck
    unfold clR
    dsimp only
    obtain ⟨ll, hll⟩ := ny ln.length
    rw [hll]
    have hk1 : 0 < k := hck.1
    have hk2 : k ≤ 16384 - f := hck.2.1
    by_cases h0 : ln = []
    · have hz : ((ll : Int) == 0) = true := by rw [← hll, h0]; rfl
      have HE := Ho (show mR ad (mF ds) = .tuple #[.int .i64 (f : Int), .int .i64 ((f + k : Nat) : Int), .nilIface] by
       unfold mF
       rw [HF.o, HQ.o.2, mfl, hc]
       dsimp only
       rw [if_pos h0]
       rfl)
      clear hck hll
      go_wp2
      try rw [Exit.noGoto_ret]
      go_ret3
      rw [HE.o]
      exact ⟨by first | rfl | simp, HU9.o⟩
    have hz : ((ll : Int) == 0) = false := by
     rw [beq_eq_false_iff_ne]
     intro e
     exact h0 (List.eq_nil_of_length_eq_zero (by omega))
    have HNx := Ho (show mfl (16384 + 1) D = (mfl (16384 - (f + k) + 1) (D.drop (f + k))).map fun p => (f + k + p.1, f + k + p.2) by
     rw [HQ.o.2, mfl, hc]
     dsimp only
     rw [if_neg h0, List.drop_drop, mfl_fuel (16384 - f) (16384 - (f + k) + 1) (D.drop (f + k)) (by rw [List.length_drop, ← HM.o]; omega) (by rw [List.length_drop, ← HM.o]; omega)]
     cases mfl (16384 - (f + k) + 1) (D.drop (f + k)) with
     | none => rfl
     | some p => simp [Nat.add_assoc])
    clear hck hll
    go_wp2
    go_roundw
    all_goals first
     | exact ⟨f + k, by go_num, by omega, Ho ⟨HU9.o, HNx.o⟩⟩
     | (simp [intOf]; omega)
theorem result_cell_tmp {P : Program} {fn : Func} {q q2 : Tmp} {T : TypeId} (h : fn.results = #[.cell q T, .tmp q2]) (tmps : Array Value) (w : World) (b : Nat) (cs : List Value) (v : Value) {d : TypeDesc}
  (hp : tmps.getD q undef = .pointer (some ⟨b, 0, none⟩)) (hv : tmps.getD q2 undef = v) (hc : w.rangeAt b 0 cs) (hu : P.underlying T = some d) (hd : d.isRow = true) (hi : (P.info? T).map (·.size) = some cs.length) : (results fn tmps).run P w = .ok (.tuple #[.agg cs.toArray, v]) w := by
 have hp' : tmps[q]?.getD undef = .pointer (some ⟨b, 0, none⟩) := by simpa using hp
 have hv' : tmps[q2]?.getD undef = v := by simpa using hv
 simp [results, h, hp', hv', asAddr, run_loadVar_mid w b 0 T cs _ hc hu hd hi]
theorem wrapk (z : Int) (h0 : 0 ≤ z) (h1 : z < 4611686018427387904) : IntKind.i64.wrap z = z := by
 simp only [IntKind.wrap, IntKind.signed, IntKind.bits]
 simp
 omega
def z3 : List Value := [.string ⟨#[]⟩, .string ⟨#[]⟩, .int .i64 0]
def hR (ad : Nat → Addr) : Er (List UInt8 × List UInt8 × Nat) → Value
 | .error k => .tuple #[.agg z3.toArray, erV ad k]
 | .ok (st, fl, k) => .tuple #[.agg #[vs st, vs fl, .int .i64 (k : Int)], .nilIface]
theorem mF_er {l : List UInt8} {k : Nat} (h : mF l = .error k) : k = 1 ∨ k = 2 := by
 unfold mF at h
 split at h
 · cases h
 split at h
 · injection h with h; exact .inl h.symm
 injection h with h; exact .inr h.symm
set_option maxRecDepth 100000 in
set_option maxHeartbeats 1000000 in
theorem cutHead_walk (ad : Nat → Addr) (p : Nat) {a : Option Addr} {n c : Nat} {ds : List UInt8} (hn40 : n ≤ 1099511627776) (w : World) (hS : Sb w (.slice a n c) ds) (h : GE w ad) : Calls Tryz.prog 115 #[.slice a n c, ev (ad p)] w fun e w' => e = .returned (hR ad (cHd p ds)) ∧ Up w w' := by
 have HG := Ho h
 clear h
 obtain ⟨hn, hnc, hcm⟩ := hS.len
 unfold maxLen at hcm
 have HN := Ho hn
 have HSb := Ho hS
 clear hn hS
 have HA := Ho (at_new w 177 z3)
 have HU1 := Ho ((Up.refl w).alloc (.cells z3.toArray 177))
 go_enter Tryz.func115, Tryz.ntmps115
 go_wp2_with fail
 obtain ⟨w1, hw1⟩ := ny (w.alloc (.cells z3.toArray 177))
 rw [hw1] at HA HU1
 change Calls _ _ _ (w.alloc (.cells z3.toArray 177)) _
 rw [hw1]
 clear hw1
 refine (cutLine_at ad 8000 8000 (by decide) (by decide) w1 (HSb.o.up HU1.o) (HG.o.up HU1.o)).mono ?_
 rintro e w2 ⟨rfl, h9⟩
 have HU2 := Ho (HU1.o.trans h9)
 have HA2 := Ho (HA.o.up h9)
 clear h9 HA HU1
 cases hc : cutL 8000 ds with
 | error k =>
  unfold clR
  dsimp only
  rcases cutL_er hc with hk | hk
  case' _ =>
   subst hk
   have HE := Ho (show hR ad (cHd p ds) = .tuple #[.agg z3.toArray, epl (ad p) (ad 1)] by
    unfold cHd
    rw [hc]
    simp [hR, erV])
   go_wp2_with fail
   refine (tooLongAs_yes ad p w2 (HG.o.up HU2.o)).mono ?_
  rotate_left
  case' _ =>
   subst hk
   have HE := Ho (show hR ad (cHd p ds) = .tuple #[.agg z3.toArray, ev (ad 2)] by
    unfold cHd
    rw [hc]
    simp [hR, erV])
   go_wp2_with fail
   refine (tooLongAs_no ad p 2 (by decide) (by decide) w2 (HG.o.up HU2.o)).mono ?_
  all_goals
   rintro e w3 ⟨rfl, h9⟩
   have HU3 := Ho (HU2.o.trans h9)
   have HA3 := Ho (HA2.o.up h9)
   clear h9
   dsimp only
   go_wp2_with (with_reducible refine sS 177 ?_)
   show wpList _ _ _ _ _ _
   refine wpList_store_at rfl 177 _ _ rfl w.heap.size HA3.o z3 rfl rfl rfl (by kernel_rfl) (by kernel_rfl) ?_
   intro w4 hA4 hg4
   have HA4 := Ho hA4
   have HU4 := Ho (HU3.o.bz hg4)
   clear hA4 hg4
   simp only [Act.put]
   repeat go_step
   refine bodyPost_ret (result_cell_tmp Tryz.results115 _ _ w.heap.size z3 _ rfl rfl HA4.o.range Tryz.underlying177 rfl (by kernel_rfl)) rfl ?_
   rw [HE.o]
   exact ⟨rfl, HU4.o⟩
 | ok q =>
  obtain ⟨st, k⟩ := q
  unfold clR
  dsimp only
  have hck := cutL_ok hc
  have hkn : k ≤ n := by rw [HN.o]; exact hck.2.1
  have hknz : (k : Int) ≤ (n : Int) := by omega
  have HSt := Ho (show Sb w (.slice a st.length c) st by
   have h1 := (show Sb w (.slice a ds.length c) ds by rw [← HN.o]; exact HSb.o).take st.length (by omega)
   rw [← hck.2.2.2.1] at h1
   exact h1)
  clear hck
  have hSk := HSb.o.sub k n hkn (by rw [← HN.o]; exact Nat.le_refl _)
  rw [show (ds.take n).drop k = ds.drop k by rw [HN.o, List.take_length]] at hSk
  have HMf := Ho (fun (w2 : World) (hu : Up w w2) => measureFields_walk ad w2 (hSk.up hu) (HG.o.up hu))
  clear hSk
  go_wp2_with (with_reducible show wpList _ _ _ (⟨_, .slice 22 _ _ _ _, _, _, _, _⟩ :: _) _ _; refine Shut.out ?_)
  show wpList _ _ _ _ _ _
  refine wpList_val7 (.slice (sv a c k) (n - k) (c - k)) rfl (exec_sublo (by omega) rfl rfl rfl) ?_
  simp only [Act.put, pB, pC, pD]
  go_wp2_with fail
  refine (HMf.o _ HU2.o).mono ?_
  rintro e w3 ⟨rfl, h9⟩
  have HU3 := Ho (HU2.o.trans h9)
  have HA3 := Ho (HA2.o.up h9)
  clear h9 HMf
  cases hm : mF (ds.drop k) with
  | error e =>
   have HE := Ho (show hR ad (cHd p ds) = .tuple #[.agg z3.toArray, ev (ad e)] by
    have he : e = 1 ∨ e = 2 := mF_er hm
    unfold cHd
    rw [hc]
    dsimp only
    rw [hm]
    rcases he with rfl | rfl <;> simp [hR, erV])
   unfold mR
   dsimp only
   go_wp2_with (with_reducible refine sS 177 ?_)
   show wpList _ _ _ _ _ _
   refine wpList_store_at rfl 177 _ _ rfl w.heap.size HA3.o z3 rfl rfl rfl (by kernel_rfl) (by kernel_rfl) ?_
   intro w4 hA4 hg4
   have HA4 := Ho hA4
   have HU4 := Ho (HU3.o.bz hg4)
   clear hA4 hg4
   simp only [Act.put]
   repeat go_step
   refine bodyPost_ret (result_cell_tmp Tryz.results115 _ _ w.heap.size z3 _ rfl rfl HA4.o.range Tryz.underlying177 rfl (by kernel_rfl)) rfl ?_
   rw [HE.o]
   exact ⟨rfl, HU4.o⟩
  | ok q =>
   obtain ⟨f, al⟩ := q
   have hmo := mF_ok hm
   rw [List.length_drop, ← HN.o] at hmo
   have hf1 : f ≤ al := hmo.1
   have hf2 : al ≤ n - k := hmo.2
   have HE := Ho (show hR ad (cHd p ds) = .tuple #[.agg #[vs st, vs ((ds.drop k).take f), .int .i64 ((k + al : Nat) : Int)], .nilIface] by
    unfold cHd
    rw [hc]
    dsimp only
    rw [hm]
    rfl)
   have HFl := Ho (show Sb w (.slice (sv a c k) f (c - k)) ((ds.drop k).take f) by
    have h1 := HSb.o.sub k (k + f) (by omega) (by rw [← HN.o]; omega)
    rw [show (ds.take (k + f)).drop k = (ds.drop k).take f by rw [List.drop_take, Nat.add_sub_cancel_left], Nat.add_sub_cancel_left] at h1
    exact h1)
   unfold mR
   dsimp only
   clear hmo
   go_wp2
   refine wp_region_held_drew (S := fun w2 => (∃ cs, cs.length = 3 ∧ At w2 w.heap.size 177 cs) ∧ Up w w2) (by kernel_rfl) ⟨⟨z3, rfl, HA3.o.up (Up.refl _).drew⟩, HU3.o.drew⟩ (fun hS => ?_)
   refine tN 0 (some 35) (.move (.tmp 6)) 22 (.slice a st.length c) hS ?_
   simp only [Act.put, pB, pC, pD]
   refine tK 1 (some 36) (.convert 22 9 (.tmp 35)) 9 (vs st) hS ?_ ?_
   · intro _ _ w5 hSw
     have hcv := conv_sb2 (HSt.o.up hSw.2)
     clear hSw hS
     go_simp
   simp only [pA, pB, pC, pD]
   refine tN 2 (some 37) (.move (.tmp 0)) 22 (.slice a n c) hS ?_
   simp only [pA, pB, pC, pD]
   refine tN 3 (some 38) (.move (.tmp 7)) 3 (.int .i64 (k : Int)) hS ?_
   simp only [pA, pB, pC, pD]
   refine tN 4 (some 39) (.move (.tmp 7)) 3 (.int .i64 (k : Int)) hS ?_
   simp only [pA, pB, pC, pD]
   refine tN 5 (some 40) (.move (.tmp 9)) 3 (.int .i64 (f : Int)) hS ?_
   simp only [pA, pB, pC, pD]
   refine tK 6 (some 41) (.binOp .add 3 (.tmp 39) (.tmp 40) 3) 3 (.int .i64 ((k + f : Nat) : Int)) hS ?_ ?_
   · intro _ _ w5 hSw
     clear hSw hS
     go_simp
     exact wrapk _ (by omega) (by omega)
   simp only [pA, pB, pC, pD]
   refine tK 7 (some 42) (.slice 22 (.tmp 37) (some (.tmp 38)) (some (.tmp 41)) none) 22 (.slice (sv a c k) f (c - k)) hS ?_ ?_
   · intro _ _ w5 hSw
     clear hSw hS
     exact (exec_sub (lo := k) (hi := k + f) (by omega) (by omega) rfl rfl rfl rfl).trans (by rw [Nat.add_sub_cancel_left])
   simp only [pA, pB, pC, pD]
   refine tK 8 (some 43) (.convert 22 9 (.tmp 42)) 9 (vs ((ds.drop k).take f)) hS ?_ ?_
   · intro _ _ w5 hSw
     have hcv := conv_sb2 (HFl.o.up hSw.2)
     clear hSw hS
     go_simp
   simp only [pA, pB, pC, pD]
   refine tN 9 (some 44) (.move (.tmp 7)) 3 (.int .i64 (k : Int)) hS ?_
   simp only [pA, pB, pC, pD]
   refine tN 10 (some 45) (.move (.tmp 10)) 3 (.int .i64 (al : Int)) hS ?_
   simp only [pA, pB, pC, pD]
   refine tK 11 (some 46) (.binOp .add 3 (.tmp 44) (.tmp 45) 3) 3 (.int .i64 ((k + al : Nat) : Int)) hS ?_ ?_
   · intro _ _ w5 hSw
     clear hSw hS
     go_simp
     exact wrapk _ (by omega) (by omega)
   simp only [pA, pB, pC, pD]
   refine tN 12 (some 47) (.build 177 #[(0, .tmp 36), (1, .tmp 43), (2, .tmp 46)]) 177 (.agg #[vs st, vs ((ds.drop k).take f), .int .i64 ((k + al : Nat) : Int)]) hS ?_
   simp only [pA, pB, pC, pD]
   refine rD 13 none (.store 177 (.tmp 4) (.tmp 47)) 0 fun _ _ K hK => oper_of_list ?_
   obtain ⟨⟨cs, hcl, hcs2⟩, hS2⟩ := hS
   refine wpList_store_at rfl 177 _ _ rfl w.heap.size hcs2 [vs st, vs ((ds.drop k).take f), .int .i64 ((k + al : Nat) : Int)] rfl rfl hcl.symm (by kernel_rfl) (by kernel_rfl) ?_
   intro w4 hA4 hg4
   have HA4 := Ho hA4
   have HU4 := Ho (hS2.bz hg4)
   clear hA4 hg4 hcs2 hS2
   refine hK.out _ _ ⟨⟨_, rfl, HA4.o⟩, HU4.o⟩ (fun hS => ?_)
   clear hK K
   refine tN 14 (some 5) (.assign (.const .nilIface)) 106 .nilIface hS ?_
   simp only [Act.put, pB, pC, pD]
   clear hS
   refine wpAnyH_done (by kernel_rfl) ?_ _
   repeat go_step
   refine bodyPost_ret (result_cell_tmp Tryz.results115 _ _ w.heap.size [vs st, vs ((ds.drop k).take f), .int .i64 ((k + al : Nat) : Int)] _ rfl rfl HA4.o.range Tryz.underlying177 rfl (by kernel_rfl)) rfl ?_
   rw [HE.o]
   exact ⟨rfl, HU4.o⟩
def tpr (l : List UInt8) : List UInt8 := if l.head? = some 13 then l.drop 1 else l
set_option maxRecDepth 100000 in
theorem bHasPrefix_walk {a : Option Addr} {n c : Nat} {ds : List UInt8} (k : UInt8) (x : Nat) (w : World) (h : Sb w (.slice a n c) ds) (hx : Sb w (.slice (some ⟨x, 0, none⟩) 1 1) [k]) : Calls Tryz.prog 187 #[.slice a n c, .slice (some ⟨x, 0, none⟩) 1 1] w fun e w' => e = .returned (.bool (decide (ds.head? = some k))) ∧ w' = w := by
 obtain ⟨hn, hnc, hcm⟩ := h.len
 have HN := Ho hn
 clear hn
 unfold maxLen at hcm
 by_cases h1 : 1 ≤ n
 · have z1 : (1 : Int) ≤ (n : Int) := by omega
   have z2 : (1 : Int) ≤ (c : Int) := by omega
   have h' : Sb w (.slice a ds.length c) ds := by rw [← HN.o]; exact h
   obtain ⟨y, ys, rfl⟩ : ∃ y ys, ds = y :: ys := by
    cases ds with
    | nil => rw [HN.o] at h1; simp at h1
    | cons y ys => exact ⟨y, ys, rfl⟩
   have hs := h'.take 1 (by simp)
   rw [show (y :: ys).take 1 = [y] by simp] at hs
   have HE := Ho (bEqual_walk w hs hx)
   have HA := Ho (show decide ((y :: ys).head? = some k) = ([y] == [k]) by
    rw [List.head?_cons, Bool.eq_iff_iff]
    simp)
   rw [HA.o]
   generalize ([y] == [k]) = r at *
   clear HA hs h hx h'
   go_enter Tryz.func187, Tryz.ntmps187
   go_wp2_with fail
   refine HE.o.mono ?_
   rintro e w9 ⟨rfl, h9⟩
   obtain rfl := h9.symm
   clear h9
   dsimp only
   go_wp2
   go_ret
   exact ⟨rfl, rfl⟩
 have z1 : ¬ (1 : Int) ≤ (n : Int) := by omega
 have hd : ds = [] := List.eq_nil_of_length_eq_zero (by rw [← HN.o]; omega)
 subst hd
 clear h hx
 go_enter Tryz.func187, Tryz.ntmps187
 go_wp2
 go_ret
 exact ⟨rfl, rfl⟩
set_option maxRecDepth 100000 in
theorem bTrimPrefix_walk {a : Option Addr} {n c : Nat} {ds : List UInt8} (x : Nat) (w : World) (h : Sb w (.slice a n c) ds) (hx : Sb w (.slice (some ⟨x, 0, none⟩) 1 1) [13]) : Calls Tryz.prog 160 #[.slice a n c, .slice (some ⟨x, 0, none⟩) 1 1] w fun e w' => (∃ a' c', e = .returned (.slice a' (tpr ds).length c') ∧ ∀ w0, Sb w0 (.slice a n c) ds → Sb w0 (.slice a' (tpr ds).length c') (tpr ds)) ∧ w' = w := by
 obtain ⟨hn, hnc, hcm⟩ := h.len
 have HN := Ho hn
 have HH := Ho (bHasPrefix_walk 13 x w h hx)
 unfold maxLen at hcm
 by_cases hl : ds.head? = some 13
 · have h1 : 1 ≤ n := by
    rw [HN.o]
    cases ds with
    | nil => cases hl
    | cons d r => simp
   have ht : tpr ds = ds.drop 1 := by unfold tpr; rw [if_pos hl]
   have hs : ∀ w0, Sb w0 (.slice a n c) ds → Sb w0 (.slice (sv a c 1) (tpr ds).length (c - 1)) (tpr ds) := fun w0 h0 => by
    have hs := h0.sub 1 n h1 (by rw [← HN.o]; exact Nat.le_refl _)
    rw [show (ds.take n).drop 1 = tpr ds by rw [HN.o, List.take_length, ht], show n - 1 = (tpr ds).length by rw [ht, List.length_drop, ← HN.o]] at hs
    exact hs
   have HT := Ho (show n - 1 = (tpr ds).length by rw [ht, List.length_drop, ← HN.o])
   have HSs := Ho hs
   rw [decide_eq_true hl] at HH
   clear hl h hx hs ht hn
   go_enter Tryz.func160, Tryz.ntmps160
   go_wp2_with fail
   refine HH.o.mono ?_
   rintro e w9 ⟨rfl, h9⟩
   obtain rfl := h9.symm
   clear h9
   dsimp only
   go_wp2_with (with_reducible show wpList _ _ _ (⟨_, .slice 22 _ _ _ _, _, _, _, _⟩ :: _) _ _; refine Shut.out ?_)
   show wpList _ _ _ _ _ _
   refine wpList_val7 (.slice (sv a c 1) (n - 1) (c - 1)) rfl (exec_sublo (lo := 1) h1 rfl rfl rfl) ?_
   simp only [Act.put, pB, pC, pD]
   go_wp2
   go_ret
   refine ⟨⟨sv a c 1, c - 1, ?_, HSs.o⟩, rfl⟩
   rw [← HT.o]
   rfl
 have ht : tpr ds = ds := by unfold tpr; rw [if_neg hl]
 rw [decide_eq_false hl] at HH
 have HSs := Ho (show ∀ w0, Sb w0 (.slice a n c) ds → Sb w0 (.slice a (tpr ds).length c) (tpr ds) from fun w0 h0 => by rw [ht, ← HN.o]; exact h0)
 have HT := Ho (show n = (tpr ds).length by rw [ht, ← HN.o])
 clear hl h hx ht hn
 go_enter Tryz.func160, Tryz.ntmps160
 go_wp2_with fail
 refine HH.o.mono ?_
 rintro e w9 ⟨rfl, h9⟩
 obtain rfl := h9.symm
 clear h9
 dsimp only
 go_wp2
 go_ret
 refine ⟨⟨a, c, ?_, HSs.o⟩, rfl⟩
 rw [← HT.o]
 rfl
def cCk (size : Nat) (l : List UInt8) : Er (List UInt8 × List UInt8) := if l.length < size then .error 2 else
 match tpr (l.drop size) with
 | [] => .error 2
 | x :: r => if x = 10 then .ok (l.take size, r) else .error 8
theorem tpr_app {l t : List UInt8} (h : l ≠ []) : tpr (l ++ t) = tpr l ++ t := by
 cases l with
 | nil => exact absurd rfl h
 | cons x r =>
  unfold tpr
  by_cases hx : x = 13
  · subst hx; simp
  simp [hx]
theorem cCk_more {s : Nat} {l t : List UInt8} (h : cCk s l ≠ .error 2) : cCk s (l ++ t) = match cCk s l with | .ok (d, r) => .ok (d, r ++ t) | .error e => .error e := by
 unfold cCk at *
 by_cases hl : l.length < s
 · rw [if_pos hl] at h; exact absurd rfl h
 rw [if_neg hl] at h ⊢
 have hl2 : ¬ (l ++ t).length < s := by rw [List.length_append]; omega
 rw [if_neg hl2, List.drop_append_of_le_length (by omega), List.take_append_of_le_length (by omega)]
 by_cases he : l.drop s = []
 · rw [he] at h; exact absurd rfl h
 rw [tpr_app he]
 cases hx : tpr (l.drop s) with
 | nil => rw [hx] at h; exact absurd rfl h
 | cons x r =>
  dsimp only [List.cons_append]
  by_cases h10 : x = 10
  · rw [if_pos h10, if_pos h10]
  rw [if_neg h10, if_neg h10]
def CcR (ad : Nat → Addr) (F : Value → List UInt8 → Prop) (a : Option Addr) (c : Nat) (e : Ending) : Er (List UInt8 × List UInt8) → Prop
 | .error k => e = .returned (.tuple #[.slice none 0 0, .slice none 0 0, ev (ad k)])
 | .ok (d, r) => ∃ a' c', e = .returned (.tuple #[.slice a d.length c, .slice a' r.length c', .nilIface]) ∧ Hd (F (.slice a' r.length c') r)
theorem CcR_er {ad : Nat → Addr} {F : Value → List UInt8 → Prop} {a : Option Addr} {c k : Nat} {e : Ending} {x : Er (List UInt8 × List UInt8)} (h : x = .error k) : CcR ad F a c e x = (e = .returned (.tuple #[.slice none 0 0, .slice none 0 0, ev (ad k)])) := by subst h; rfl
theorem CcR_ok {ad : Nat → Addr} {F : Value → List UInt8 → Prop} {a : Option Addr} {c n : Nat} {e : Ending} {x : Er (List UInt8 × List UInt8)} {d r : List UInt8} (h : x = .ok (d, r)) (hn : d.length = n) : CcR ad F a c e x = (∃ a' c', e = .returned (.tuple #[.slice a n c, .slice a' r.length c', .nilIface]) ∧ Hd (F (.slice a' r.length c') r)) := by subst h hn; rfl
set_option maxRecDepth 100000 in
set_option maxHeartbeats 1000000 in
theorem cutChunk_walk (ad : Nat → Addr) (size : Nat) {a : Option Addr} {n c : Nat} {ds : List UInt8} (w : World) (hS : Sb w (.slice a n c) ds) (h : GE w ad) : Calls Tryz.prog 127 #[.slice a n c, .int .i64 (size : Int)] w fun e w' => CcR ad (fun v r => ∀ w0, Sb w0 (.slice a n c) ds → Sb w0 v r) a c e (cCk size ds) ∧ Up w w' := by
 have HG := Ho h
 clear h
 obtain ⟨hn, hnc, hcm⟩ := hS.len
 unfold maxLen at hcm
 have HN := Ho hn
 have HSb := Ho hS
 clear hn hS
 have kc := fun (w : World) (C : Array Value) (n c : Nat) => Go.Lib.run_convert_bytes_const (P := Tryz.prog) w 22 5 C n c Tryz.underlying22 Tryz.underlying5
 go_enter Tryz.func127, Tryz.ntmps127
 by_cases hlt : n < size
 · have hltz : (n : Int) < (size : Int) := by omega
   have HE := Ho (fun e => CcR_er (ad := ad) (F := fun v r => ∀ w0, Sb w0 (.slice a n c) ds → Sb w0 v r) (a := a) (c := c) (e := e) (show cCk size ds = .error 2 by unfold cCk; rw [if_pos (by rw [← HN.o]; exact hlt)]))
   go_wp2
   refine wp_region_held_drew (S := fun w2 => GE w2 ad ∧ Up w w2) (by kernel_rfl) ⟨HG.o.up (Up.refl w).drew, (Up.refl w).drew⟩ (fun hS => ?_)
   refine tK 0 (some 11) (.load 106 (.global 17)) 106 (ev (ad 2)) hS ?_ ?_
   · intro _ _ w5 hSw
     have hgl : w5.cell? ⟨17, 0, none⟩ = _ := hSw.1.gl 2 (by decide)
     clear hSw hS
     go_simp
   simp only [pA, pB, pC, pD]
   refine tN 1 (some 4) (.assign (.const (.slice none 0 0))) 22 (.slice none 0 0) hS ?_
   simp only [pA, pB, pC, pD]
   refine tN 2 (some 5) (.assign (.const (.slice none 0 0))) 22 (.slice none 0 0) hS ?_
   simp only [pA, pB, pC, pD]
   refine tN 3 (some 6) (.assign (.tmp 11)) 106 (ev (ad 2)) hS ?_
   simp only [pA, pB, pC, pD]
   refine wpAnyH_done (by kernel_rfl) ?_ _
   have HS2 := Ho hS.2
   clear hS
   go_wp2
   go_ret3
   rw [HE.o]
   exact ⟨rfl, HS2.o⟩
 have hltz : ¬ (n : Int) < (size : Int) := by omega
 have hsn : size ≤ n := by omega
 have hSk := HSb.o.sub size n hsn (by rw [← HN.o]; exact Nat.le_refl _)
 rw [show (ds.take n).drop size = ds.drop size by rw [HN.o, List.take_length]] at hSk
 have HTP := Ho (fun (w2 : World) (hu : Up w w2) (x : Nat) (hx : Sb w2 (.slice (some ⟨x, 0, none⟩) 1 1) [13]) => bTrimPrefix_walk x w2 (hSk.up hu) hx)
 have HLn := Ho (show ¬ ds.length < size by rw [← HN.o]; exact hlt)
 clear hSk
 go_wp2_with (with_reducible show wpList _ _ _ (⟨_, .slice 22 _ _ _ _, _, _, _, _⟩ :: _) _ _; refine Shut.out ?_)
 show wpList _ _ _ _ _ _
 refine wpList_val7 (.slice (sv a c size) (n - size) (c - size)) rfl (exec_sublo hsn rfl rfl rfl) ?_
 simp only [Act.put, pB, pC, pD]
 go_wp2_with fail
 refine (HTP.o _ ((Up.refl w).alloc _) w.heap.size (sb_mk w 13)).mono ?_
 rintro e w9 ⟨⟨a7, c7, rfl, hs7⟩, h9⟩
 have HU9 := Ho (show Up w w9 by rw [h9]; exact (Up.refl w).alloc _)
 have HF7 := Ho (show ∀ w0, Sb w0 (.slice a n c) ds → Sb w0 (.slice a7 (tpr (ds.drop size)).length c7) (tpr (ds.drop size)) from fun w0 h0 => hs7 w0 (by
  have hSk := h0.sub size n hsn (by rw [← HN.o]; exact Nat.le_refl _)
  rw [show (ds.take n).drop size = ds.drop size by rw [HN.o, List.take_length]] at hSk
  exact hSk))
 have HS7 := Ho (HF7.o w9 (HSb.o.up HU9.o))
 clear h9 hs7 HTP
 dsimp only
 obtain ⟨_, hnc7, hcm7⟩ := HS7.o.len
 unfold maxLen at hcm7
 cases ht : tpr (ds.drop size) with
 | nil =>
  have HE := Ho (fun e => CcR_er (ad := ad) (F := fun v r => ∀ w0, Sb w0 (.slice a n c) ds → Sb w0 v r) (a := a) (c := c) (e := e) (show cCk size ds = .error 2 by unfold cCk; rw [if_neg HLn.o, ht]))
  clear hnc7
  go_wp2
  refine wp_region_held_drew (S := fun w2 => GE w2 ad ∧ Up w w2) (by kernel_rfl) ⟨HG.o.up HU9.o.drew, HU9.o.drew⟩ (fun hS => ?_)
  refine tK 0 (some 22) (.load 106 (.global 17)) 106 (ev (ad 2)) hS ?_ ?_
  · intro _ _ w5 hSw
    have hgl : w5.cell? ⟨17, 0, none⟩ = _ := hSw.1.gl 2 (by decide)
    clear hSw hS
    go_simp
  simp only [pA, pB, pC, pD]
  refine tN 1 (some 4) (.assign (.const (.slice none 0 0))) 22 (.slice none 0 0) hS ?_
  simp only [pA, pB, pC, pD]
  refine tN 2 (some 5) (.assign (.const (.slice none 0 0))) 22 (.slice none 0 0) hS ?_
  simp only [pA, pB, pC, pD]
  refine tN 3 (some 6) (.assign (.tmp 22)) 106 (ev (ad 2)) hS ?_
  simp only [pA, pB, pC, pD]
  refine wpAnyH_done (by kernel_rfl) ?_ _
  have HS2 := Ho hS.2
  clear hS
  go_wp2
  go_ret3
  rw [HE.o]
  exact ⟨rfl, HS2.o⟩
 | cons x r =>
  rw [ht] at HS7 hnc7 HF7
  have hl7 : (x :: r).length = r.length + 1 := List.length_cons
  rw [hl7] at HS7 hnc7 HF7 ⊢
  clear hl7
  obtain ⟨b7, o7, ha7, hc7⟩ := HS7.o.get (j := 0) (by simp)
  subst ha7
  have hcell : w9.cell? ⟨b7, o7, none⟩ = some (vb x) := hc7
  clear hc7
  have hr0 : ((r.length : Int) + 1 == 0) = false := by rw [beq_eq_false_iff_ne]; omega
  have hr1 : (0 : Int) < (r.length : Int) + 1 := by omega
  have h10 : ((x.toNat : Int) == 10) = (x == 10) := u8_eq (a := x) (b := 10)
  by_cases hx : x = 10
  · have HE := Ho (fun e => CcR_ok (ad := ad) (F := fun v r => ∀ w0, Sb w0 (.slice a n c) ds → Sb w0 v r) (a := a) (c := c) (e := e) (n := size) (show cCk size ds = .ok (ds.take size, r) by unfold cCk; rw [if_neg HLn.o, ht]; dsimp only; rw [if_pos hx]) (by rw [List.length_take, ← HN.o]; omega))
    have b10 : ((x.toNat : Int) != 10) = false := by rw [bne, h10, hx]; rfl
    clear h10
    have HSr9 := Ho (show ∀ w0, Sb w0 (.slice a n c) ds → Sb w0 (.slice (sv (some ⟨b7, o7, none⟩) c7 1) r.length (c7 - 1)) r from fun w0 h0 => by
     have h1 := (HF7.o w0 h0).sub 1 (r.length + 1) (by omega) (by simp)
     simpa using h1)
    go_wp2
    refine wp_region_held_drew (S := fun w2 => Up w9 w2) (by kernel_rfl) (Up.refl w9).drew (fun hS => ?_)
    refine tN 0 (some 29) (.move (.tmp 0)) 22 (.slice a n c) hS ?_
    simp only [pA, pB, pC, pD]
    refine tN 1 (some 30) (.move (.tmp 1)) 3 (.int .i64 (size : Int)) hS ?_
    simp only [pA, pB, pC, pD]
    refine tK 2 (some 31) (.slice 22 (.tmp 29) none (some (.tmp 30)) none) 22 (.slice a size c) hS ?_ ?_
    · intro _ _ w5 hSw
      clear hSw hS
      exact exec_subhi (by omega) rfl rfl rfl
    simp only [pA, pB, pC, pD]
    refine tN 3 (some 32) (.move (.tmp 5)) 22 (.slice (some ⟨b7, o7, none⟩) (r.length + 1) c7) hS ?_
    simp only [pA, pB, pC, pD]
    refine tK 4 (some 33) (.slice 22 (.tmp 32) (some (.const (.int .i64 1))) none none) 22 (.slice (sv (some ⟨b7, o7, none⟩) c7 1) r.length (c7 - 1)) hS ?_ ?_
    · intro _ _ w5 hSw
      clear hSw hS
      exact (exec_sublo (lo := 1) (by omega) rfl rfl rfl).trans (by rw [Nat.add_sub_cancel])
    simp only [pA, pB, pC, pD]
    refine tN 5 (some 4) (.assign (.tmp 31)) 22 (.slice a size c) hS ?_
    simp only [pA, pB, pC, pD]
    refine tN 6 (some 5) (.assign (.tmp 33)) 22 (.slice (sv (some ⟨b7, o7, none⟩) c7 1) r.length (c7 - 1)) hS ?_
    simp only [pA, pB, pC, pD]
    refine tN 7 (some 6) (.assign (.const .nilIface)) 106 .nilIface hS ?_
    simp only [pA, pB, pC, pD]
    refine wpAnyH_done (by kernel_rfl) ?_ _
    have HS2 := Ho hS
    clear hS
    go_wp2
    go_ret3
    refine ⟨?_, HU9.o.trans HS2.o⟩
    rw [HE.o]
    exact ⟨_, _, rfl, HSr9⟩
  have HE := Ho (fun e => CcR_er (ad := ad) (F := fun v r => ∀ w0, Sb w0 (.slice a n c) ds → Sb w0 v r) (a := a) (c := c) (e := e) (show cCk size ds = .error 8 by unfold cCk; rw [if_neg HLn.o, ht]; dsimp only; rw [if_neg hx]))
  have b10 : ((x.toNat : Int) != 10) = true := by rw [bne, h10]; simpa using hx
  clear h10
  go_wp2
  refine wp_region_held_drew (S := fun w2 => GE w2 ad ∧ Up w w2) (by kernel_rfl) ⟨HG.o.up HU9.o.drew, HU9.o.drew⟩ (fun hS => ?_)
  refine tK 0 (some 28) (.load 106 (.global 11)) 106 (ev (ad 8)) hS ?_ ?_
  · intro _ _ w5 hSw
    have hgl : w5.cell? ⟨11, 0, none⟩ = _ := hSw.1.gl 8 (by decide)
    clear hSw hS
    go_simp
  simp only [pA, pB, pC, pD]
  refine tN 1 (some 4) (.assign (.const (.slice none 0 0))) 22 (.slice none 0 0) hS ?_
  simp only [pA, pB, pC, pD]
  refine tN 2 (some 5) (.assign (.const (.slice none 0 0))) 22 (.slice none 0 0) hS ?_
  simp only [pA, pB, pC, pD]
  refine tN 3 (some 6) (.assign (.tmp 28)) 106 (ev (ad 8)) hS ?_
  simp only [pA, pB, pC, pD]
  refine wpAnyH_done (by kernel_rfl) ?_ _
  have HS2 := Ho hS.2
  clear hS
  go_wp2
  go_ret3
  rw [HE.o]
  exact ⟨rfl, HS2.o⟩
end Go.Proofs.YtehnnlhoajdcaaaGreatDoor
