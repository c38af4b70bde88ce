import Derived.Test.YtabpgpbcnadgcaaGreatDoorYg
namespace Go.Proofs.YtabpgpbcnadgcaaGreatDoor
open Go.RowKit TextNum
theorem result_cell_tmp {P : Program} {fn : Func} {q q2 : Tmp} {T : TypeId} (h : fn.results = #[.cell q T, .tmp q2]) (tmps : Array Value) (w : World) (b : Nat) (cs : List Value) (v : Value) {d : TypeDesc}
    (hp : tmps.getD q undef = .pointer (some ⟨b, 0, none⟩)) (hv : tmps.getD q2 undef = v) (hc : w.rangeAt b 0 cs) (hu : P.underlying T = some d) (hd : d.isRow = true) (hi : (P.info? T).map (·.size) = some cs.length) : (results fn tmps).run P w = .ok (.tuple #[.agg cs.toArray, v]) w := by
  have hp' : tmps[q]?.getD undef = .pointer (some ⟨b, 0, none⟩) := by simpa using hp
  have hv' : tmps[q2]?.getD undef = v := by simpa using hv
  simp [results, h, hp', hv', asAddr, run_loadVar_mid w b 0 T cs _ hc hu hd hi]
theorem wrapk (z : Int) (h0 : 0 ≤ z) (h1 : z < 4611686018427387904) : IntKind.i64.wrap z = z := by
  simp only [IntKind.wrap, IntKind.signed, IntKind.bits]
  simp
  omega
/-- a head without anything -/
def z3 : List Value := [.string ⟨#[]⟩, .string ⟨#[]⟩, .int .i64 0]
def hR (ad : Nat → Addr) : Er (List UInt8 × List UInt8 × Nat) → Value
  | .error k => .tuple #[.agg z3.toArray, erV ad k]
  | .ok (st, fl, k) => .tuple #[.agg #[vs st, vs fl, .int .i64 (k : Int)], .nilIface]
theorem mF_er {l : List UInt8} {k : Nat} (h : mF l = .error k) : k = 1 ∨ k = 2 := by
  unfold mF at h
  split at h
  · cases h
  · split at h
    · injection h with h; exact .inl h.symm
    · injection h with h; exact .inr h.symm
set_option maxRecDepth 100000 in
set_option maxHeartbeats 1000000 in
theorem cutHead_walk (ad : Nat → Addr) (p : Nat) {a : Option Addr} {n c : Nat} {ds : List UInt8} (hn40 : n ≤ 1099511627776) (w : World) (hS : Sb w (.slice a n c) ds) (h : GE w ad) : Calls Tryz.prog 115 #[.slice a n c, ev (ad p)] w fun e w' => e = .returned (hR ad (cHd p ds)) ∧ Up w w' := by
  have HG := Hid.of h
  clear h
  obtain ⟨hn, hnc, hcm⟩ := hS.len
  unfold maxLen at hcm
  have HN := Hid.of hn
  have HSb := Hid.of hS
  clear hn hS
  have HA := Hid.of (at_new w 177 z3)
  have HU1 := Hid.of ((Up.refl w).alloc (.cells z3.toArray 177))
  go_enter Tryz.func115, Tryz.ntmps115
  go_wp2_with fail
  obtain ⟨w1, hw1⟩ : ∃ w1, w.alloc (.cells z3.toArray 177) = w1 := ⟨_, rfl⟩
  rw [hw1] at HA HU1
  change Calls _ _ _ (w.alloc (.cells z3.toArray 177)) _
  rw [hw1]
  clear hw1
  refine (cutLine_at ad 8000 8000 (by decide) (by decide) w1 (HSb.out.up HU1.out) (HG.out.up HU1.out)).mono ?_
  rintro e w2 ⟨rfl, h9⟩
  have HU2 := Hid.of (HU1.out.trans h9)
  have HA2 := Hid.of (HA.out.up h9)
  clear h9 HA HU1
  cases hc : cutL 8000 ds with
  | error k =>
    unfold clR
    dsimp only
    rcases cutL_er hc with hk | hk
    · subst hk
      have HE := Hid.of (show hR ad (cHd p ds) = .tuple #[.agg z3.toArray, epl (ad p) (ad 1)] by
        unfold cHd
        rw [hc]
        simp [hR, erV])
      go_wp2_with fail
      refine (tooLongAs_yes ad p w2 (HG.out.up HU2.out)).mono ?_
      rintro e w3 ⟨rfl, h9⟩
      have HU3 := Hid.of (HU2.out.trans h9)
      have HA3 := Hid.of (HA2.out.up h9)
      clear h9
      dsimp only
      go_wp2_with (with_reducible show wpList _ _ _ ({ dst := _, op := Op.store 177 _ _, type := _, pos := _, after := _, guard := _ } :: _) _ _; refine Shut.out ?_)
      show wpList _ _ _ _ _ _
      refine wpList_store_at rfl 177 _ _ rfl w.heap.size HA3.out z3 rfl rfl rfl (by kernel_rfl) (by kernel_rfl) ?_
      intro w4 hA4 hg4
      have HA4 := Hid.of hA4
      have HU4 := Hid.of (HU3.out.by hg4 (fun g hg => by have := Option.some.inj hg; omega))
      clear hA4 hg4
      simp only [Act.put]
      repeat go_step
      refine bodyPost_ret (result_cell_tmp Tryz.results115 _ _ w.heap.size z3 _ rfl rfl HA4.out.range Tryz.underlying177 rfl (by kernel_rfl)) rfl ?_
      rw [HE.out]
      exact ⟨rfl, HU4.out⟩
    · subst hk
      have HE := Hid.of (show hR ad (cHd p ds) = .tuple #[.agg z3.toArray, ev (ad 2)] by
        unfold cHd
        rw [hc]
        simp [hR, erV])
      go_wp2_with fail
      refine (tooLongAs_no ad p 2 (by decide) (by decide) w2 (HG.out.up HU2.out)).mono ?_
      rintro e w3 ⟨rfl, h9⟩
      have HU3 := Hid.of (HU2.out.trans h9)
      have HA3 := Hid.of (HA2.out.up h9)
      clear h9
      dsimp only
      go_wp2_with (with_reducible show wpList _ _ _ ({ dst := _, op := Op.store 177 _ _, type := _, pos := _, after := _, guard := _ } :: _) _ _; refine Shut.out ?_)
      show wpList _ _ _ _ _ _
      refine wpList_store_at rfl 177 _ _ rfl w.heap.size HA3.out z3 rfl rfl rfl (by kernel_rfl) (by kernel_rfl) ?_
      intro w4 hA4 hg4
      have HA4 := Hid.of hA4
      have HU4 := Hid.of (HU3.out.by hg4 (fun g hg => by have := Option.some.inj hg; omega))
      clear hA4 hg4
      simp only [Act.put]
      repeat go_step
      refine bodyPost_ret (result_cell_tmp Tryz.results115 _ _ w.heap.size z3 _ rfl rfl HA4.out.range Tryz.underlying177 rfl (by kernel_rfl)) rfl ?_
      rw [HE.out]
      exact ⟨rfl, HU4.out⟩
  | ok q =>
    obtain ⟨st, k⟩ := q
    unfold clR
    dsimp only
    have hck := cutL_ok hc
    have hkn : k ≤ n := by rw [HN.out]; exact hck.2.1
    have hknz : (k : Int) ≤ (n : Int) := by omega
    have HSt := Hid.of (show Sb w (.slice a st.length c) st by
      have h1 := (show Sb w (.slice a ds.length c) ds by rw [← HN.out]; exact HSb.out).take st.length (by omega)
      rw [← hck.2.2.2.1] at h1
      exact h1)
    clear hck
    have hSk := HSb.out.sub k n hkn (by rw [← HN.out]; exact Nat.le_refl _)
    rw [show (ds.take n).drop k = ds.drop k by rw [HN.out, List.take_length]] at hSk
    have HMf := Hid.of (fun (w2 : World) (hu : Up w w2) => measureFields_walk ad w2 (hSk.up hu) (HG.out.up hu))
    clear hSk
    go_wp2_with (with_reducible show wpList _ _ _ ({ dst := _, op := Op.slice 22 _ _ _ _, type := _, pos := _, after := _, guard := _ } :: _) _ _; refine Shut.out ?_)
    show wpList _ _ _ _ _ _
    refine wpList_val7 (.slice (sv a c k) (n - k) (c - k)) rfl (exec_sublo (by omega) rfl rfl rfl) ?_
    simp only [Act.put, List.setIfInBounds_toArray, List.set_cons_zero, List.set_cons_succ]
    go_wp2_with fail
    refine (HMf.out _ HU2.out).mono ?_
    rintro e w3 ⟨rfl, h9⟩
    have HU3 := Hid.of (HU2.out.trans h9)
    have HA3 := Hid.of (HA2.out.up h9)
    clear h9 HMf
    cases hm : mF (ds.drop k) with
    | error e =>
      have HE := Hid.of (show hR ad (cHd p ds) = .tuple #[.agg z3.toArray, ev (ad e)] by
        have he : e = 1 ∨ e = 2 := mF_er hm
        unfold cHd
        rw [hc]
        dsimp only
        rw [hm]
        rcases he with rfl | rfl <;> simp [hR, erV])
      unfold mR
      dsimp only
      go_wp2_with (with_reducible show wpList _ _ _ ({ dst := _, op := Op.store 177 _ _, type := _, pos := _, after := _, guard := _ } :: _) _ _; refine Shut.out ?_)
      show wpList _ _ _ _ _ _
      refine wpList_store_at rfl 177 _ _ rfl w.heap.size HA3.out z3 rfl rfl rfl (by kernel_rfl) (by kernel_rfl) ?_
      intro w4 hA4 hg4
      have HA4 := Hid.of hA4
      have HU4 := Hid.of (HU3.out.by hg4 (fun g hg => by have := Option.some.inj hg; omega))
      clear hA4 hg4
      simp only [Act.put]
      repeat go_step
      refine bodyPost_ret (result_cell_tmp Tryz.results115 _ _ w.heap.size z3 _ rfl rfl HA4.out.range Tryz.underlying177 rfl (by kernel_rfl)) rfl ?_
      rw [HE.out]
      exact ⟨rfl, HU4.out⟩
    | ok q =>
      obtain ⟨f, al⟩ := q
      have hmo := mF_ok hm
      rw [List.length_drop, ← HN.out] at hmo
      have hf1 : f ≤ al := hmo.1
      have hf2 : al ≤ n - k := hmo.2
      have HE := Hid.of (show hR ad (cHd p ds) = .tuple #[.agg #[vs st, vs ((ds.drop k).take f), .int .i64 ((k + al : Nat) : Int)], .nilIface] by
        unfold cHd
        rw [hc]
        dsimp only
        rw [hm]
        rfl)
      have HFl := Hid.of (show Sb w (.slice (sv a c k) f (c - k)) ((ds.drop k).take f) by
        have h1 := HSb.out.sub k (k + f) (by omega) (by rw [← HN.out]; omega)
        rw [show (ds.take (k + f)).drop k = (ds.drop k).take f by rw [List.drop_take, Nat.add_sub_cancel_left], Nat.add_sub_cancel_left] at h1
        exact h1)
      unfold mR
      dsimp only
      clear hmo
      go_wp2
      refine wp_region_held_drew (S := fun w2 => (∃ cs, cs.length = 3 ∧ At w2 w.heap.size 177 cs) ∧ Up w w2) (by kernel_rfl) ⟨⟨z3, rfl, HA3.out.up (Up.refl _).drew⟩, HU3.out.drew⟩ (fun hS => ?_)
      refine wpAnyH_take (i := 0) (oi := { dst := some 35, op := Go.Op.move (Go.Operand.tmp 6), type := 22, pos := "head.go:46", after := #[], guard := none }) (v := .slice a st.length c) rfl (by kernel_rfl) (by kernel_rfl) (by kernel_rfl) (fun _ _ _ h => h) (Or.inl ⟨by kernel_rfl, ?_⟩) hS ?_
      · intro w5 hSw
        clear hSw hS
        go_simp
      simp only [Act.put, List.setIfInBounds_toArray, List.set_cons_zero, List.set_cons_succ]
      refine wpAnyH_take (i := 1) (oi := { dst := some 36, op := Go.Op.convert 22 9 (Go.Operand.tmp 35), type := 9, pos := "head.go:46", after := #[{ on := 0, ground := Go.Ground.data }], guard := none }) (v := vs st) rfl (by kernel_rfl) (by kernel_rfl) (by kernel_rfl) (fun _ _ _ h => h) (Or.inl ⟨by kernel_rfl, ?_⟩) hS ?_
      · intro w5 hSw
        have hcv := conv_sb2 (HSt.out.up hSw.2)
        clear hSw hS
        go_simp
      simp only [Act.put, List.setIfInBounds_toArray, List.set_cons_zero, List.set_cons_succ]
      refine wpAnyH_take (i := 2) (oi := { dst := some 37, op := Go.Op.move (Go.Operand.tmp 0), type := 22, pos := "head.go:46", after := #[], guard := none }) (v := .slice a n c) rfl (by kernel_rfl) (by kernel_rfl) (by kernel_rfl) (fun _ _ _ h => h) (Or.inl ⟨by kernel_rfl, ?_⟩) hS ?_
      · intro w5 hSw
        clear hSw hS
        go_simp
      simp only [Act.put, List.setIfInBounds_toArray, List.set_cons_zero, List.set_cons_succ]
      refine wpAnyH_take (i := 3) (oi := { dst := some 38, op := Go.Op.move (Go.Operand.tmp 7), type := 3, pos := "head.go:46", after := #[], guard := none }) (v := .int .i64 (k : Int)) rfl (by kernel_rfl) (by kernel_rfl) (by kernel_rfl) (fun _ _ _ h => h) (Or.inl ⟨by kernel_rfl, ?_⟩) hS ?_
      · intro w5 hSw
        clear hSw hS
        go_simp
      simp only [Act.put, List.setIfInBounds_toArray, List.set_cons_zero, List.set_cons_succ]
      refine wpAnyH_take (i := 4) (oi := { dst := some 39, op := Go.Op.move (Go.Operand.tmp 7), type := 3, pos := "head.go:46", after := #[], guard := none }) (v := .int .i64 (k : Int)) rfl (by kernel_rfl) (by kernel_rfl) (by kernel_rfl) (fun _ _ _ h => h) (Or.inl ⟨by kernel_rfl, ?_⟩) hS ?_
      · intro w5 hSw
        clear hSw hS
        go_simp
      simp only [Act.put, List.setIfInBounds_toArray, List.set_cons_zero, List.set_cons_succ]
      refine wpAnyH_take (i := 5) (oi := { dst := some 40, op := Go.Op.move (Go.Operand.tmp 9), type := 3, pos := "head.go:46", after := #[], guard := none }) (v := .int .i64 (f : Int)) rfl (by kernel_rfl) (by kernel_rfl) (by kernel_rfl) (fun _ _ _ h => h) (Or.inl ⟨by kernel_rfl, ?_⟩) hS ?_
      · intro w5 hSw
        clear hSw hS
        go_simp
      simp only [Act.put, List.setIfInBounds_toArray, List.set_cons_zero, List.set_cons_succ]
      refine wpAnyH_take (i := 6) (oi := { dst := some 41, op := Go.Op.binOp Go.BinOp.add 3 (Go.Operand.tmp 39) (Go.Operand.tmp 40) 3, type := 3, pos := "head.go:46", after := #[{ on := 4, ground := Go.Ground.data }, { on := 5, ground := Go.Ground.data }], guard := none }) (v := .int .i64 ((k + f : Nat) : Int)) rfl (by kernel_rfl) (by kernel_rfl) (by kernel_rfl) (fun _ _ _ h => h) (Or.inl ⟨by kernel_rfl, ?_⟩) hS ?_
      · intro w5 hSw
        clear hSw hS
        go_simp
        exact wrapk _ (by omega) (by omega)
      simp only [Act.put, List.setIfInBounds_toArray, List.set_cons_zero, List.set_cons_succ]
      refine wpAnyH_take (i := 7) (oi := { dst := some 42, op := Go.Op.slice 22 (Go.Operand.tmp 37) (some (Go.Operand.tmp 38)) (some (Go.Operand.tmp 41)) none, type := 22, pos := "head.go:46", after := #[{ on := 2, ground := Go.Ground.data }, { on := 3, ground := Go.Ground.data }, { on := 6, ground := Go.Ground.data }], guard := none }) (v := .slice (sv a c k) f (c - k)) rfl (by kernel_rfl) (by kernel_rfl) (by kernel_rfl) (fun _ _ _ h => h) (Or.inl ⟨by kernel_rfl, ?_⟩) hS ?_
      · intro w5 hSw
        clear hSw hS
        exact (exec_sub (lo := k) (hi := k + f) (by omega) (by omega) rfl rfl rfl rfl).trans (by rw [Nat.add_sub_cancel_left])
      simp only [Act.put, List.setIfInBounds_toArray, List.set_cons_zero, List.set_cons_succ]
      refine wpAnyH_take (i := 8) (oi := { dst := some 43, op := Go.Op.convert 22 9 (Go.Operand.tmp 42), type := 9, pos := "head.go:46", after := #[{ on := 7, ground := Go.Ground.data }], guard := none }) (v := vs ((ds.drop k).take f)) rfl (by kernel_rfl) (by kernel_rfl) (by kernel_rfl) (fun _ _ _ h => h) (Or.inl ⟨by kernel_rfl, ?_⟩) hS ?_
      · intro w5 hSw
        have hcv := conv_sb2 (HFl.out.up hSw.2)
        clear hSw hS
        go_simp
      simp only [Act.put, List.setIfInBounds_toArray, List.set_cons_zero, List.set_cons_succ]
      refine wpAnyH_take (i := 9) (oi := { dst := some 44, op := Go.Op.move (Go.Operand.tmp 7), type := 3, pos := "head.go:46", after := #[], guard := none }) (v := .int .i64 (k : Int)) rfl (by kernel_rfl) (by kernel_rfl) (by kernel_rfl) (fun _ _ _ h => h) (Or.inl ⟨by kernel_rfl, ?_⟩) hS ?_
      · intro w5 hSw
        clear hSw hS
        go_simp
      simp only [Act.put, List.setIfInBounds_toArray, List.set_cons_zero, List.set_cons_succ]
      refine wpAnyH_take (i := 10) (oi := { dst := some 45, op := Go.Op.move (Go.Operand.tmp 10), type := 3, pos := "head.go:46", after := #[], guard := none }) (v := .int .i64 (al : Int)) rfl (by kernel_rfl) (by kernel_rfl) (by kernel_rfl) (fun _ _ _ h => h) (Or.inl ⟨by kernel_rfl, ?_⟩) hS ?_
      · intro w5 hSw
        clear hSw hS
        go_simp
      simp only [Act.put, List.setIfInBounds_toArray, List.set_cons_zero, List.set_cons_succ]
      refine wpAnyH_take (i := 11) (oi := { dst := some 46, op := Go.Op.binOp Go.BinOp.add 3 (Go.Operand.tmp 44) (Go.Operand.tmp 45) 3, type := 3, pos := "head.go:46", after := #[{ on := 9, ground := Go.Ground.data }, { on := 10, ground := Go.Ground.data }], guard := none }) (v := .int .i64 ((k + al : Nat) : Int)) rfl (by kernel_rfl) (by kernel_rfl) (by kernel_rfl) (fun _ _ _ h => h) (Or.inl ⟨by kernel_rfl, ?_⟩) hS ?_
      · intro w5 hSw
        clear hSw hS
        go_simp
        exact wrapk _ (by omega) (by omega)
      simp only [Act.put, List.setIfInBounds_toArray, List.set_cons_zero, List.set_cons_succ]
      refine wpAnyH_take (i := 12) (oi := { dst := some 47, op := Go.Op.build 177 #[(0, Go.Operand.tmp 36), (1, Go.Operand.tmp 43), (2, Go.Operand.tmp 46)], type := 177, pos := "head.go:46", after := #[{ on := 1, ground := Go.Ground.data }, { on := 8, ground := Go.Ground.data }, { on := 11, ground := Go.Ground.data }], guard := none }) (v := .agg #[vs st, vs ((ds.drop k).take f), .int .i64 ((k + al : Nat) : Int)]) rfl (by kernel_rfl) (by kernel_rfl) (by kernel_rfl) (fun _ _ _ h => h) (Or.inl ⟨by kernel_rfl, ?_⟩) hS ?_
      · intro w5 hSw
        clear hSw hS
        go_simp
      simp only [Act.put, List.setIfInBounds_toArray, List.set_cons_zero, List.set_cons_succ]
      refine wpAnyH_ready (rs := [13]) (by kernel_rfl) (by simp) ?_
      refine AllReadyH.cons (o := { dst := none, op := Go.Op.store 177 (Go.Operand.tmp 4) (Go.Operand.tmp 47), type := 0, pos := "head.go:46", after := #[{ on := 12, ground := Go.Ground.data }, { on := 0, ground := Go.Ground.phase }, { on := 1, ground := Go.Ground.phase }, { on := 2, ground := Go.Ground.phase }, { on := 3, ground := Go.Ground.phase }, { on := 4, ground := Go.Ground.phase }, { on := 5, ground := Go.Ground.phase }, { on := 6, ground := Go.Ground.phase }, { on := 7, ground := Go.Ground.phase }, { on := 8, ground := Go.Ground.phase }, { on := 9, ground := Go.Ground.phase }, { on := 10, ground := Go.Ground.phase }, { on := 11, ground := Go.Ground.phase }, { on := 12, ground := Go.Ground.phase }], guard := none }) rfl (fun K hK => oper_of_list ?_) AllReadyH.nil
      obtain ⟨⟨cs, hcl, hcs2⟩, hS2⟩ := hS
      refine wpList_store_at rfl 177 _ _ rfl w.heap.size hcs2 [vs st, vs ((ds.drop k).take f), .int .i64 ((k + al : Nat) : Int)] rfl rfl hcl.symm (by kernel_rfl) (by kernel_rfl) ?_
      intro w4 hA4 hg4
      have HA4 := Hid.of hA4
      have HU4 := Hid.of (hS2.by hg4 (fun g hg => by have := Option.some.inj hg; omega))
      clear hA4 hg4 hcs2 hS2
      refine hK.out _ _ ⟨⟨_, rfl, HA4.out⟩, HU4.out⟩ (fun hS => ?_)
      clear hK K
      refine wpAnyH_take (i := 14) (oi := { dst := some 5, op := Go.Op.assign (Go.Operand.const Go.Value.nilIface), type := 106, pos := "head.go:46", after := #[{ on := 13, ground := Go.Ground.chain }, { on := 0, ground := Go.Ground.phase }, { on := 1, ground := Go.Ground.phase }, { on := 2, ground := Go.Ground.phase }, { on := 3, ground := Go.Ground.phase }, { on := 4, ground := Go.Ground.phase }, { on := 5, ground := Go.Ground.phase }, { on := 6, ground := Go.Ground.phase }, { on := 7, ground := Go.Ground.phase }, { on := 8, ground := Go.Ground.phase }, { on := 9, ground := Go.Ground.phase }, { on := 10, ground := Go.Ground.phase }, { on := 11, ground := Go.Ground.phase }, { on := 12, ground := Go.Ground.phase }, { on := 13, ground := Go.Ground.phase }], guard := none }) (v := .nilIface) rfl (by kernel_rfl) (by kernel_rfl) (by kernel_rfl) (fun _ _ _ h => h) (Or.inl ⟨by kernel_rfl, ?_⟩) hS ?_
      · intro w5 hSw
        clear hSw hS
        go_simp
      simp only [Act.put, List.setIfInBounds_toArray, List.set_cons_zero, List.set_cons_succ]
      clear hS
      refine wpAnyH_done (by kernel_rfl) ?_ _
      repeat go_step
      refine bodyPost_ret (result_cell_tmp Tryz.results115 _ _ w.heap.size [vs st, vs ((ds.drop k).take f), .int .i64 ((k + al : Nat) : Int)] _ rfl rfl HA4.out.range Tryz.underlying177 rfl (by kernel_rfl)) rfl ?_
      rw [HE.out]
      exact ⟨rfl, HU4.out⟩
end Go.Proofs.YtabpgpbcnadgcaaGreatDoor
