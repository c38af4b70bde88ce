import Derived.Test.YtkaoalcffgnfeaaGreatDoorYg
namespace Go.Proofs.YtkaoalcffgnfeaaGreatDoor
open Go.RowKit TextNum
theorem result_cell_tmp {P : Program} {fn : Func} {q q2 : Tmp} {T : TypeId} (h : fn.results = #[.cell q T, .tmp q2]) (tmps : Array Value) (w : World) (b : Nat) (cs : List Value) (v : Value) {d : TypeDesc}
 (hp : tmps.getD q undef = .pointer (some ⟨b, 0, none⟩)) (hv : tmps.getD q2 undef = v) (hc : w.rangeAt b 0 cs) (hu : P.underlying T = some d) (hd : d.isRow = true) (hi : (P.info? T).map (·.size) = some cs.length) : (results fn tmps).run P w = .ok (.tuple #[.agg cs.toArray, v]) w := by
 have hp' : tmps[q]?.getD undef = .pointer (some ⟨b, 0, none⟩) := by simpa using hp
 have hv' : tmps[q2]?.getD undef = v := by simpa using hv
 simp [results, h, hp', hv', asAddr, run_loadVar_mid w b 0 T cs _ hc hu hd hi]
theorem wrapk (z : Int) (h0 : 0 ≤ z) (h1 : z < 4611686018427387904) : IntKind.i64.wrap z = z := by
 simp only [IntKind.wrap, IntKind.signed, IntKind.bits]
 simp
 omega
def z3 : List Value := [.string ⟨#[]⟩, .string ⟨#[]⟩, .int .i64 0]
def hR (ad : Nat → Addr) : Er (List UInt8 × List UInt8 × Nat) → Value
 | .error k => .tuple #[.agg z3.toArray, erV ad k]
 | .ok (st, fl, k) => .tuple #[.agg #[vs st, vs fl, .int .i64 (k : Int)], .nilIface]
theorem mF_er {l : List UInt8} {k : Nat} (h : mF l = .error k) : k = 1 ∨ k = 2 := by
 unfold mF at h
 split at h
 · cases h
 · split at h
   · injection h with h; exact .inl h.symm
   · injection h with h; exact .inr h.symm
set_option maxRecDepth 100000 in
set_option maxHeartbeats 1000000 in
theorem cutHead_walk (ad : Nat → Addr) (p : Nat) {a : Option Addr} {n c : Nat} {ds : List UInt8} (hn40 : n ≤ 1099511627776) (w : World) (hS : Sb w (.slice a n c) ds) (h : GE w ad) : Calls Tryz.prog 67 #[.slice a n c, ev (ad p)] w fun e w' => e = .returned (hR ad (cHd p ds)) ∧ Up w w' := by
 have HG := Ho h
 clear h
 obtain ⟨hn, hnc, hcm⟩ := hS.len
 unfold maxLen at hcm
 have HN := Ho hn
 have HSb := Ho hS
 clear hn hS
 have HA := Ho (at_new w 118 z3)
 have HU1 := Ho ((Up.refl w).alloc (.cells z3.toArray 118))
 go_enter Tryz.func67, Tryz.ntmps67
 go_wp2_with fail
 obtain ⟨w1, hw1⟩ := ny (w.alloc (.cells z3.toArray 118))
 rw [hw1] at HA HU1
 change Calls _ _ _ (w.alloc (.cells z3.toArray 118)) _
 rw [hw1]
 clear hw1
 refine (cutLine_at ad 8000 8000 (by decide) (by decide) w1 (HSb.o.up HU1.o) (HG.o.up HU1.o)).mono ?_
 rintro e w2 ⟨rfl, h9⟩
 have HU2 := Ho (HU1.o.trans h9)
 have HA2 := Ho (HA.o.up h9)
 clear h9 HA HU1
 cases hc : cutL 8000 ds with
 | error k =>
  unfold clR
  dsimp only
  rcases cutL_er hc with hk | hk
  case' _ =>
   subst hk
   have HE := Ho (show hR ad (cHd p ds) = .tuple #[.agg z3.toArray, epl (ad p) (ad 1)] by
    unfold cHd
    rw [hc]
    simp [hR, erV])
   go_wp2_with fail
   refine (tooLongAs_yes ad p w2 (HG.o.up HU2.o)).mono ?_
  rotate_left
  case' _ =>
   subst hk
   have HE := Ho (show hR ad (cHd p ds) = .tuple #[.agg z3.toArray, ev (ad 2)] by
    unfold cHd
    rw [hc]
    simp [hR, erV])
   go_wp2_with fail
   refine (tooLongAs_no ad p 2 (by decide) (by decide) w2 (HG.o.up HU2.o)).mono ?_
  all_goals
   rintro e w3 ⟨rfl, h9⟩
   have HU3 := Ho (HU2.o.trans h9)
   have HA3 := Ho (HA2.o.up h9)
   clear h9
   dsimp only
   go_wp2_with (with_reducible refine sS 118 ?_)
   show wpList _ _ _ _ _ _
   refine wpList_store_at rfl 118 _ _ rfl w.heap.size HA3.o z3 rfl rfl rfl (by kernel_rfl) (by kernel_rfl) ?_
   intro w4 hA4 hg4
   have HA4 := Ho hA4
   have HU4 := Ho (HU3.o.bz hg4)
   clear hA4 hg4
   simp only [Act.put]
   repeat go_step
   refine bodyPost_ret (result_cell_tmp Tryz.results67 _ _ w.heap.size z3 _ rfl rfl HA4.o.range Tryz.underlying118 rfl (by kernel_rfl)) rfl ?_
   rw [HE.o]
   exact ⟨rfl, HU4.o⟩
 | ok q =>
  obtain ⟨st, k⟩ := q
  unfold clR
  dsimp only
  have hck := cutL_ok hc
  have hkn : k ≤ n := by rw [HN.o]; exact hck.2.1
  have hknz : (k : Int) ≤ (n : Int) := by omega
  have HSt := Ho (show Sb w (.slice a st.length c) st by
   have h1 := (show Sb w (.slice a ds.length c) ds by rw [← HN.o]; exact HSb.o).take st.length (by omega)
   rw [← hck.2.2.2.1] at h1
   exact h1)
  clear hck
  have hSk := HSb.o.sub k n hkn (by rw [← HN.o]; exact Nat.le_refl _)
  rw [show (ds.take n).drop k = ds.drop k by rw [HN.o, List.take_length]] at hSk
  have HMf := Ho (fun (w2 : World) (hu : Up w w2) => measureFields_walk ad w2 (hSk.up hu) (HG.o.up hu))
  clear hSk
  go_wp2_with (with_reducible show wpList _ _ _ (⟨_, .slice 23 _ _ _ _, _, _, _, _⟩ :: _) _ _; refine Shut.out ?_)
  show wpList _ _ _ _ _ _
  refine wpList_val7 (.slice (sv a c k) (n - k) (c - k)) rfl (exec_sublo (by omega) rfl rfl rfl) ?_
  simp only [Act.put, pB, pC, pD]
  go_wp2_with fail
  refine (HMf.o _ HU2.o).mono ?_
  rintro e w3 ⟨rfl, h9⟩
  have HU3 := Ho (HU2.o.trans h9)
  have HA3 := Ho (HA2.o.up h9)
  clear h9 HMf
  cases hm : mF (ds.drop k) with
  | error e =>
   have HE := Ho (show hR ad (cHd p ds) = .tuple #[.agg z3.toArray, ev (ad e)] by
    have he : e = 1 ∨ e = 2 := mF_er hm
    unfold cHd
    rw [hc]
    dsimp only
    rw [hm]
    rcases he with rfl | rfl <;> simp [hR, erV])
   unfold mR
   dsimp only
   go_wp2_with (with_reducible refine sS 118 ?_)
   show wpList _ _ _ _ _ _
   refine wpList_store_at rfl 118 _ _ rfl w.heap.size HA3.o z3 rfl rfl rfl (by kernel_rfl) (by kernel_rfl) ?_
   intro w4 hA4 hg4
   have HA4 := Ho hA4
   have HU4 := Ho (HU3.o.bz hg4)
   clear hA4 hg4
   simp only [Act.put]
   repeat go_step
   refine bodyPost_ret (result_cell_tmp Tryz.results67 _ _ w.heap.size z3 _ rfl rfl HA4.o.range Tryz.underlying118 rfl (by kernel_rfl)) rfl ?_
   rw [HE.o]
   exact ⟨rfl, HU4.o⟩
  | ok q =>
   obtain ⟨f, al⟩ := q
   have hmo := mF_ok hm
   rw [List.length_drop, ← HN.o] at hmo
   have hf1 : f ≤ al := hmo.1
   have hf2 : al ≤ n - k := hmo.2
   have HE := Ho (show hR ad (cHd p ds) = .tuple #[.agg #[vs st, vs ((ds.drop k).take f), .int .i64 ((k + al : Nat) : Int)], .nilIface] by
    unfold cHd
    rw [hc]
    dsimp only
    rw [hm]
    rfl)
   have HFl := Ho (show Sb w (.slice (sv a c k) f (c - k)) ((ds.drop k).take f) by
    have h1 := HSb.o.sub k (k + f) (by omega) (by rw [← HN.o]; omega)
    rw [show (ds.take (k + f)).drop k = (ds.drop k).take f by rw [List.drop_take, Nat.add_sub_cancel_left], Nat.add_sub_cancel_left] at h1
    exact h1)
   unfold mR
   dsimp only
   clear hmo
   go_wp2
   refine wp_region_held_drew (S := fun w2 => (∃ cs, cs.length = 3 ∧ At w2 w.heap.size 118 cs) ∧ Up w w2) (by kernel_rfl) ⟨⟨z3, rfl, HA3.o.up (Up.refl _).drew⟩, HU3.o.drew⟩ (fun hS => ?_)
   refine tN 0 (some 35) (.move (.tmp 6)) 23 (.slice a st.length c) hS ?_
   simp only [Act.put, pB, pC, pD]
   refine tK 1 (some 36) (.convert 23 9 (.tmp 35)) 9 (vs st) hS ?_ ?_
   · intro _ _ w5 hSw
     have hcv := conv_sb2 (HSt.o.up hSw.2)
     clear hSw hS
     go_simp
   simp only [pA, pB, pC, pD]
   refine tN 2 (some 37) (.move (.tmp 0)) 23 (.slice a n c) hS ?_
   simp only [pA, pB, pC, pD]
   refine tN 3 (some 38) (.move (.tmp 7)) 3 (.int .i64 (k : Int)) hS ?_
   simp only [pA, pB, pC, pD]
   refine tN 4 (some 39) (.move (.tmp 7)) 3 (.int .i64 (k : Int)) hS ?_
   simp only [pA, pB, pC, pD]
   refine tN 5 (some 40) (.move (.tmp 9)) 3 (.int .i64 (f : Int)) hS ?_
   simp only [pA, pB, pC, pD]
   refine tK 6 (some 41) (.binOp .add 3 (.tmp 39) (.tmp 40) 3) 3 (.int .i64 ((k + f : Nat) : Int)) hS ?_ ?_
   · intro _ _ w5 hSw
     clear hSw hS
     go_simp
     exact wrapk _ (by omega) (by omega)
   simp only [pA, pB, pC, pD]
   refine tK 7 (some 42) (.slice 23 (.tmp 37) (some (.tmp 38)) (some (.tmp 41)) none) 23 (.slice (sv a c k) f (c - k)) hS ?_ ?_
   · intro _ _ w5 hSw
     clear hSw hS
     exact (exec_sub (lo := k) (hi := k + f) (by omega) (by omega) rfl rfl rfl rfl).trans (by rw [Nat.add_sub_cancel_left])
   simp only [pA, pB, pC, pD]
   refine tK 8 (some 43) (.convert 23 9 (.tmp 42)) 9 (vs ((ds.drop k).take f)) hS ?_ ?_
   · intro _ _ w5 hSw
     have hcv := conv_sb2 (HFl.o.up hSw.2)
     clear hSw hS
     go_simp
   simp only [pA, pB, pC, pD]
   refine tN 9 (some 44) (.move (.tmp 7)) 3 (.int .i64 (k : Int)) hS ?_
   simp only [pA, pB, pC, pD]
   refine tN 10 (some 45) (.move (.tmp 10)) 3 (.int .i64 (al : Int)) hS ?_
   simp only [pA, pB, pC, pD]
   refine tK 11 (some 46) (.binOp .add 3 (.tmp 44) (.tmp 45) 3) 3 (.int .i64 ((k + al : Nat) : Int)) hS ?_ ?_
   · intro _ _ w5 hSw
     clear hSw hS
     go_simp
     exact wrapk _ (by omega) (by omega)
   simp only [pA, pB, pC, pD]
   refine tN 12 (some 47) (.build 118 #[(0, .tmp 36), (1, .tmp 43), (2, .tmp 46)]) 118 (.agg #[vs st, vs ((ds.drop k).take f), .int .i64 ((k + al : Nat) : Int)]) hS ?_
   simp only [pA, pB, pC, pD]
   refine rD 13 none (.store 118 (.tmp 4) (.tmp 47)) 0 fun _ _ K hK => oper_of_list ?_
   obtain ⟨⟨cs, hcl, hcs2⟩, hS2⟩ := hS
   refine wpList_store_at rfl 118 _ _ rfl w.heap.size hcs2 [vs st, vs ((ds.drop k).take f), .int .i64 ((k + al : Nat) : Int)] rfl rfl hcl.symm (by kernel_rfl) (by kernel_rfl) ?_
   intro w4 hA4 hg4
   have HA4 := Ho hA4
   have HU4 := Ho (hS2.bz hg4)
   clear hA4 hg4 hcs2 hS2
   refine hK.out _ _ ⟨⟨_, rfl, HA4.o⟩, HU4.o⟩ (fun hS => ?_)
   clear hK K
   refine tN 14 (some 5) (.assign (.const .nilIface)) 73 .nilIface hS ?_
   simp only [Act.put, pB, pC, pD]
   clear hS
   refine wpAnyH_done (by kernel_rfl) ?_ _
   repeat go_step
   refine bodyPost_ret (result_cell_tmp Tryz.results67 _ _ w.heap.size [vs st, vs ((ds.drop k).take f), .int .i64 ((k + al : Nat) : Int)] _ rfl rfl HA4.o.range Tryz.underlying118 rfl (by kernel_rfl)) rfl ?_
   rw [HE.o]
   exact ⟨rfl, HU4.o⟩
end Go.Proofs.YtkaoalcffgnfeaaGreatDoor
