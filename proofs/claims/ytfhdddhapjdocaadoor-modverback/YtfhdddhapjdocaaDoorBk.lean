import Derived.Test.YtfhdddhapjdocaaDoorBkp
namespace Go.Proofs.YtfhdddhapjdocaaDoor
open Go.RowKit Go.Shelf TextNum ModNum
theorem rng_left {w : World} {b o : Nat} {a c : List Value} (h : w.rangeAt b o (a ++ c)) : w.rangeAt b o a := fun j v hj => h j v (by
  rw [List.getElem?_append_left (List.getElem?_eq_some_iff.1 hj).1]; exact hj)
theorem rng_right {w : World} {b : Nat} {a c : List Value} (h : w.rangeAt b 0 (a ++ c)) : w.rangeAt b a.length c := fun j v hj => by
  have := h (a.length + j) v (by rw [List.getElem?_append_right (by omega), Nat.add_sub_cancel_left]; exact hj)
  rw [Nat.zero_add] at this
  exact this
theorem exec_neq32 {op : Oper} {ρ : Operand → Value} {x y : Operand} {t : TypeId} (ho : op.op = .binOp .neq 43 x y t) (r : List UInt8) (hx : ρ x = .agg (cb r).toArray) (hy : ρ y = .agg (cb r).toArray) (hr : r.length = 32) (w : World) : (execOp ρ op).run Tryd.prog w = .ok (.value (.bool false)) w := by
  have hq := equal32 9998 r r hr hr w
  unfold execOp
  simp only [ho, hx, hy, Sem.run_bind, run_eqGuard_agg (P := Tryd.prog) (w := w) .neq 43 x y _ _ Tryd.eqGuardType43, run_neq_struct, hq, Result.andThen_ok, Sem.run_pure, beq_self_eq_true, Bool.not_true]
/-- what the law asks where there is a key -/
structure BackOk (W : World) (p v k s : ByteArray) (x y : List UInt8) : Prop where
  PK : ∀ w', Up W w' → Hid (Calls Tryd.prog 24 #[.string k] w' fun r w'' => r = .returned (.tuple #[.string p, .string v, .int .i64 0]) ∧ Up w' w'')
  PR : ∀ w', Up W w' → Hid (Calls Tryd.prog 28 #[.string s] w' fun r w'' => r = .returned (.tuple #[.string p, .string v, .agg (cb x).toArray, .agg (cb y).toArray, .int .i64 0]) ∧ Up w' w'')
  EP : ∃ c, (∀ w', Up W w' → Hid (Calls Tryd.prog 18 #[.string p] w' fun r w'' => r = .returned (.tuple #[.string c, .int .i64 0]) ∧ Up w' w'')) ∧ (∀ w', Up W w' → Hid (Calls Tryd.prog 22 #[.string c] w' fun r w'' => r = .returned (.tuple #[.string p, .int .i64 0]) ∧ Up w' w''))
  EV : ∃ c, (∀ w', Up W w' → Hid (Calls Tryd.prog 20 #[.string v] w' fun r w'' => r = .returned (.tuple #[.string c, .int .i64 0]) ∧ Up w' w'')) ∧ (∀ w', Up W w' → Hid (Calls Tryd.prog 23 #[.string c] w' fun r w'' => r = .returned (.tuple #[.string v, .int .i64 0]) ∧ Up w' w''))
  len : s.data.toList.length ≤ 873
theorem backOk {W : World} {p v : ByteArray} {x y : List UInt8} (hx : x.length = 32) (hy : y.length = 32) (hG : GR W) (hT : TabL W) (h : fte p.data.toList v.data.toList = 0) :
    BackOk W p v ⟨(keyT p.data.toList v.data.toList).toArray⟩ ⟨(recT p.data.toList v.data.toList x y).toArray⟩ x y := by
  obtain ⟨m, q, hm, hq, _⟩ := fte_ok h
  obtain ⟨k0, k1, k2⟩ := back_key h
  have hr := back_rec hx hy h
  obtain ⟨a0, a1⟩ := back_path hm
  obtain ⟨b0, b1⟩ := back_ver hq
  have l1 := (maj_len hm).1
  have l2 := (ver_len hq).1
  have hkl : (keyT p.data.toList v.data.toList).length ≤ 400 := by
    unfold keyT
    rw [if_pos h]
    simp only [List.length_append, List.length_cons]
    omega
  have hel : (epT p.data.toList).length ≤ 600 := by
    unfold epT
    rw [hm]
    have := esc_len p.data.toList
    show (esc' p.data.toList).length ≤ 600
    omega
  have hvl : (evT v.data.toList).length ≤ 600 := by
    unfold evT
    rw [hq]
    have := esc_len v.data.toList
    show (esc' v.data.toList).length ≤ 600
    omega
  refine ⟨fun w' u => ?_, fun w' u => ?_, ⟨⟨(epT p.data.toList).toArray⟩, fun w' u => ?_, fun w' u => ?_⟩, ⟨⟨(evT v.data.toList).toArray⟩, fun w' u => ?_, fun w' u => ?_⟩, recT_len hx hy h⟩
  · have := ParseKey_walk ⟨(keyT p.data.toList v.data.toList).toArray⟩ (by rw [Go.Lib.size_eq]; show (keyT p.data.toList v.data.toList).length ≤ _; omega) w' (hG.up u)
    rw [ba_data', k0, k1, k2] at this
    exact this
  · have := ParseRecord_walk ⟨(recT p.data.toList v.data.toList x y).toArray⟩ w' (hG.up u) (hT.below hT.lt u)
    rw [ba_data', hr] at this
    exact this
  · have := EscapePath_walk p w' (hG.up u)
    rw [majE_some hm] at this
    exact this
  · have := UnescapePath_walk ⟨(epT p.data.toList).toArray⟩ (by rw [Go.Lib.size_eq]; show (epT p.data.toList).length ≤ _; omega) w' (hG.up u)
    rw [ba_data', a0, a1] at this
    exact this
  · have := EscapeVersion_walk v w' (hG.up u).toGM
    rw [verE_some hq] at this
    exact this
  · have := UnescapeVersion_walk ⟨(evT v.data.toList).toArray⟩ (by rw [Go.Lib.size_eq]; show (evT v.data.toList).length ≤ _; omega) w' (hG.up u).toGM
    rw [ba_data', b0, b1] at this
    exact this
set_option maxRecDepth 100000 in
set_option maxHeartbeats 40000000 in
theorem back_walk (p v : ByteArray) (x y : List UInt8) (hx : x.length = 32) (hy : y.length = 32) (w : World) (hG : GR w) (hT : TabL w) :
    Calls Tryd.prog 9 #[.string p, .string v, .agg (cb x ++ cb y).toArray] w fun e w' => e = .returned (.bool true) ∧ Up w w' := by
  obtain ⟨cs, hcs⟩ : ∃ cs, cb x ++ cb y = cs := ⟨_, rfl⟩
  rw [hcs]
  obtain ⟨W0, hW0⟩ : ∃ W0, w.alloc (.cells cs.toArray 50) = W0 := ⟨_, rfl⟩
  have HU0 : Hid (Up w W0) := by rw [← hW0]; exact (Up.refl w).alloc _
  have HRg : ∀ w', Up W0 w' → Hid (w'.rangeAt w.heap.size 0 (cb x) ∧ w'.rangeAt w.heap.size 32 (cb y)) := fun w' u => by
    have h1 : At W0 w.heap.size 50 cs := by rw [← hW0]; exact at_new _ _ _
    have h2 := (h1.up u).range
    rw [← hcs] at h2
    refine ⟨rng_left h2, ?_⟩
    have h3 := rng_right h2
    rw [cb_length, hx] at h3
    exact h3
  have hG0 : GR W0 := hG.up HU0.out
  have hT0 : TabL W0 := hT.below hT.lt HU0.out
  have HS := Hid.of (sample_walk W0 hG0 hT0)
  have HSum : ∀ w', Up W0 w' → Hid (Calls Tryd.prog 27 #[.agg (cb x).toArray] w' fun r w'' => r = .returned (.string ⟨(sumT x).toArray⟩) ∧ Up w' w'') := fun w' u => Sum_walk x hx w' (hT0.below hT0.lt u)
  have HPs : ∀ w', Up W0 w' → Hid (Calls Tryd.prog 26 #[.string ⟨(sumT x).toArray⟩] w' fun r w'' => r = .returned (.tuple #[.agg (cb x).toArray, .int .i64 0]) ∧ Up w' w'') := fun w' u => by
    have := ParseSum_walk ⟨(sumT x).toArray⟩ w' (hT0.below hT0.lt u)
    rw [ba_data', psm_back hx] at this
    exact this
  obtain ⟨k, s, e, m, HK, HR, HM, hc⟩ : ∃ (k s : ByteArray) (e m : Int), (∀ w', Up W0 w' → Hid (Calls Tryd.prog 25 #[.string p, .string v] w' fun r w'' => r = .returned (.tuple #[.string k, .int .i64 e]) ∧ Up w' w'')) ∧ (∀ w', Up W0 w' → Hid (Calls Tryd.prog 29 #[.string p, .string v, .agg (cb x).toArray, .agg (cb y).toArray] w' fun r w'' => r = .returned (.tuple #[.string s, .int .i64 e]) ∧ Up w' w'')) ∧ (∀ w', Up W0 w' → Hid (Calls Tryd.prog 17 #[.string p] w' fun r w'' => r = .returned (.int .i64 m) ∧ Up w' w'')) ∧ ((e = 0 ∧ Hid (BackOk W0 p v k s x y)) ∨ ((e != 0) = true ∧ k = ⟨#[]⟩ ∧ s = ⟨#[]⟩ ∧ (e == 110) = (m != 0))) := by
    refine ⟨⟨(keyT p.data.toList v.data.toList).toArray⟩, ⟨(recT p.data.toList v.data.toList x y).toArray⟩, fte p.data.toList v.data.toList, majE p.data.toList, fun w' u => Key_walk p v w' (hG0.up u), fun w' u => Record_walk p v x y hx hy w' (hG0.up u) (hT0.below hT0.lt u), fun w' u => CheckPath_walk p w' (hG0.up u), ?_⟩
    by_cases h : fte p.data.toList v.data.toList = 0
    · exact .inl ⟨h, backOk hx hy hG0 hT0 h⟩
    · refine .inr ⟨by rw [bne_iff_ne]; exact h, ?_, ?_, ?_⟩
      · unfold keyT; rw [if_neg h]
      · unfold recT; rw [if_neg h]
      · have := fte_bad p.data.toList v.data.toList
        rw [Bool.eq_iff_iff, beq_iff_eq, bne_iff_ne]
        exact this
  have HX := Hid.of (And.intro hx hy)
  generalize (⟨(sumT x).toArray⟩ : ByteArray) = sx at *
  clear hG hT hG0 hT0 hx hy hcs
  go_enter Tryd.func9, Tryd.ntmps9
  go_wp2_with fail
  refine HS.out.mono ?_
  rintro e0 w1 ⟨rfl, u1⟩
  have H1 := Hid.of u1
  clear u1 HS hW0
  dsimp only
  go_wp2_with (with_reducible show wpList _ _ _ ({ dst := _, op := Op.load 43 _, type := _, pos := _, after := _, guard := _ } :: _) _ _; refine Shut.out ?_)
  show wpList _ _ _ _ _ _
  refine wpList_load_mid rfl _ _ rfl w.heap.size 0 rfl (cb x) _ (HRg _ H1.out).out.1 Tryd.underlying43 rfl (by rw [cb_length, HX.out.1]; kernel_rfl) ?_
  simp only [Act.put, List.setIfInBounds_toArray, List.set_cons_zero, List.set_cons_succ]
  go_wp2_with fail
  refine ((HSum _ H1.out).out).mono ?_
  rintro e w2 ⟨rfl, u2⟩
  have H2 := Hid.of (H1.out.trans u2)
  have Hu2 := Hid.of u2
  clear u2
  dsimp only
  go_wp2_with fail
  refine ((HPs _ H2.out).out).mono ?_
  rintro e w3 ⟨rfl, u3⟩
  have H3 := Hid.of (H2.out.trans u3)
  have Hu3 := Hid.of u3
  clear u3
  dsimp only
  clear HSum HPs
  have HLt3 := Hid.of (Nat.le_trans HU0.out.size H3.out.size)
  have HA3 := Hid.of (at_new w3 43 (cb Z32))
  have HW3 := Hid.of (H3.out.alloc (.cells (cb Z32).toArray 43))
  have HS3 := Hid.of H3.out.size
  go_wp2_with (with_reducible show wpList _ _ _ ({ dst := _, op := Op.store 43 _ _, type := _, pos := _, after := _, guard := _ } :: _) _ _; refine Shut.out ?_)
  show wpList _ _ _ _ _ _
  rw [zlit]
  generalize w3.alloc (.cells (cb Z32).toArray 43) = W4 at *
  refine wpList_store_at rfl _ _ _ rfl w3.heap.size HA3.out (cb x) rfl rfl (by rw [cb_length, cb_length, HX.out.1]; rfl) (by rw [List.size_toArray, cb_length, HX.out.1]; kernel_rfl) (cb_all _) fun z1 hz1 hg1 => ?_
  have HZ1 := Hid.of hz1
  have HZU := Hid.of (HW3.out.by hg1 (fun g hg => by have := HS3.out; injection hg with hg; omega))
  clear hz1 hg1 HA3 HW3
  simp only [Act.put]
  go_wp2_with (with_reducible show wpList _ _ _ ({ dst := _, op := Op.load 43 _, type := _, pos := _, after := _, guard := _ } :: _) _ _; refine Shut.out ?_)
  show wpList _ _ _ _ _ _
  refine wpList_load_want (by kernel_rfl) _ _ rfl w3.heap.size 0 rfl (cb x) _ HZ1.out.range Tryd.underlying43 rfl (by rw [cb_length, HX.out.1]; kernel_rfl) ?_
  simp only [Act.put, List.setIfInBounds_toArray, List.set_cons_zero, List.set_cons_succ]
  go_wp2_with (with_reducible show wpList _ _ _ ({ dst := _, op := Op.load 43 _, type := _, pos := _, after := _, guard := _ } :: _) _ _; refine Shut.out ?_)
  show wpList _ _ _ _ _ _
  refine wpList_load_want (by kernel_rfl) _ _ rfl w.heap.size 0 rfl (cb x) _ (HRg _ HZU.out).out.1 Tryd.underlying43 rfl (by rw [cb_length, HX.out.1]; kernel_rfl) ?_
  simp only [Act.put, List.setIfInBounds_toArray, List.set_cons_zero, List.set_cons_succ]
  refine wpList_yield_want (by kernel_rfl) (v := .bool false) (exec_neq32 rfl x rfl rfl HX.out.1 _) ?_
  simp only [Act.put, List.setIfInBounds_toArray, List.set_cons_zero, List.set_cons_succ]
  clear HZ1 HLt3 HS3
  go_wp2_with fail
  refine ((HK _ HZU.out).out).mono ?_
  rintro e w5 ⟨rfl, u5⟩
  have H5 := Hid.of (HZU.out.trans u5)
  have Hu5 := Hid.of u5
  clear u5
  dsimp only
  go_wp2_with (with_reducible show wpList _ _ _ ({ dst := _, op := Op.load 43 _, type := _, pos := _, after := _, guard := _ } :: _) _ _; refine Shut.out ?_)
  show wpList _ _ _ _ _ _
  refine wpList_load_mid rfl _ _ rfl w.heap.size 0 rfl (cb x) _ (HRg _ H5.out).out.1 Tryd.underlying43 rfl (by rw [cb_length, HX.out.1]; kernel_rfl) ?_
  simp only [Act.put, List.setIfInBounds_toArray, List.set_cons_zero, List.set_cons_succ]
  go_wp2_with (with_reducible show wpList _ _ _ ({ dst := _, op := Op.load 43 _, type := _, pos := _, after := _, guard := _ } :: _) _ _; refine Shut.out ?_)
  show wpList _ _ _ _ _ _
  refine wpList_load_mid rfl _ _ rfl w.heap.size 32 rfl (cb y) _ (HRg _ H5.out).out.2 Tryd.underlying43 rfl (by rw [cb_length, HX.out.2]; kernel_rfl) ?_
  simp only [Act.put, List.setIfInBounds_toArray, List.set_cons_zero, List.set_cons_succ]
  go_wp2_with fail
  refine ((HR _ H5.out).out).mono ?_
  rintro e w6 ⟨rfl, u6⟩
  have H6 := Hid.of (H5.out.trans u6)
  have Hu6 := Hid.of u6
  clear u6
  dsimp only
  clear HK HR
  rcases hc with ⟨rfl, HO⟩ | ⟨he, rfl, rfl, hm⟩
  · clear HM
    go_wp2_with fail
    refine ((HO.out.PK _ H6.out).out).mono ?_
    rintro e w7 ⟨rfl, u7⟩
    have H7 := Hid.of (H6.out.trans u7)
    have Hu7 := Hid.of u7
    clear u7
    dsimp only
    go_wp2_with fail
    refine ((HO.out.PR _ H7.out).out).mono ?_
    rintro e w8 ⟨rfl, u8⟩
    have H8 := Hid.of (H7.out.trans u8)
    have Hu8 := Hid.of u8
    clear u8
    dsimp only
    have HLt8 := Hid.of H8.out.size
    have HB2 : Hid (At ((w8.alloc (.cells (cb Z32).toArray 43)).alloc (.cells (cb Z32).toArray 43)) (w8.heap.size + 1) 43 (cb Z32)) := by
      have := at_new (w8.alloc (.cells (cb Z32).toArray 43)) 43 (cb Z32)
      rw [alloc_size] at this
      exact this
    have HB1 : Hid (At ((w8.alloc (.cells (cb Z32).toArray 43)).alloc (.cells (cb Z32).toArray 43)) w8.heap.size 43 (cb Z32)) := At.up (at_new w8 43 (cb Z32)) ((Up.refl _).alloc _)
    have HU8 := Hid.of ((H8.out.alloc (.cells (cb Z32).toArray 43)).alloc (.cells (cb Z32).toArray 43))
    go_wp2_with (with_reducible show wpList _ _ _ ({ dst := _, op := Op.store 43 _ _, type := _, pos := _, after := _, guard := _ } :: _) _ _; refine Shut.out ?_)
    show wpList _ _ _ _ _ _
    rw [zlit]
    generalize (w8.alloc (.cells (cb Z32).toArray 43)).alloc (.cells (cb Z32).toArray 43) = W9 at *
    refine wpList_store_at rfl _ _ _ rfl w8.heap.size HB1.out (cb x) rfl rfl (by rw [cb_length, cb_length, HX.out.1]; rfl) (by rw [List.size_toArray, cb_length, HX.out.1]; kernel_rfl) (cb_all _) fun x1 hx1 hg1 => ?_
    have HX1 := Hid.of hx1
    have HX2 := Hid.of (HB2.out.by hg1 (by intro h; injection h with h; omega))
    have HXU := Hid.of (HU8.out.by hg1 (fun g hg => by have := HLt8.out; injection hg with hg; omega))
    clear hx1 hg1 HB1 HB2 HU8
    simp only [Act.put]
    go_wp2_with (with_reducible show wpList _ _ _ ({ dst := _, op := Op.store 43 _ _, type := _, pos := _, after := _, guard := _ } :: _) _ _; refine Shut.out ?_)
    show wpList _ _ _ _ _ _
    refine wpList_store_at rfl _ _ _ rfl (w8.heap.size + 1) HX2.out (cb y) rfl rfl (by rw [cb_length, cb_length, HX.out.2]; rfl) (by rw [List.size_toArray, cb_length, HX.out.2]; kernel_rfl) (cb_all _) fun x2 hx2 hg2 => ?_
    have HY2 := Hid.of hx2
    have HY1 := Hid.of (HX1.out.by hg2 (by intro h; injection h with h; omega))
    have HYU := Hid.of (HXU.out.by hg2 (fun g hg => by have := HLt8.out; injection hg with hg; omega))
    clear hx2 hg2 HX1 HX2 HXU
    simp only [Act.put]
    go_wp2_with (with_reducible show wpList _ _ _ ({ dst := _, op := Op.load 43 _, type := _, pos := _, after := _, guard := _ } :: _) _ _; refine Shut.out ?_)
    show wpList _ _ _ _ _ _
    refine wpList_load_want (by kernel_rfl) _ _ rfl w8.heap.size 0 rfl (cb x) _ HY1.out.range Tryd.underlying43 rfl (by rw [cb_length, HX.out.1]; kernel_rfl) ?_
    simp only [Act.put, List.setIfInBounds_toArray, List.set_cons_zero, List.set_cons_succ]
    go_wp2_with (with_reducible show wpList _ _ _ ({ dst := _, op := Op.load 43 _, type := _, pos := _, after := _, guard := _ } :: _) _ _; refine Shut.out ?_)
    show wpList _ _ _ _ _ _
    refine wpList_load_want (by kernel_rfl) _ _ rfl w.heap.size 0 rfl (cb x) _ (HRg _ HYU.out).out.1 Tryd.underlying43 rfl (by rw [cb_length, HX.out.1]; kernel_rfl) ?_
    simp only [Act.put, List.setIfInBounds_toArray, List.set_cons_zero, List.set_cons_succ]
    refine wpList_yield_want (by kernel_rfl) (v := .bool false) (exec_neq32 rfl x rfl rfl HX.out.1 _) ?_
    simp only [Act.put, List.setIfInBounds_toArray, List.set_cons_zero, List.set_cons_succ]
    go_wp2_with (with_reducible show wpList _ _ _ ({ dst := _, op := Op.load 43 _, type := _, pos := _, after := _, guard := _ } :: _) _ _; refine Shut.out ?_)
    show wpList _ _ _ _ _ _
    refine wpList_load_want (by kernel_rfl) _ _ rfl (w8.heap.size + 1) 0 rfl (cb y) _ HY2.out.range Tryd.underlying43 rfl (by rw [cb_length, HX.out.2]; kernel_rfl) ?_
    simp only [Act.put, List.setIfInBounds_toArray, List.set_cons_zero, List.set_cons_succ]
    go_wp2_with (with_reducible show wpList _ _ _ ({ dst := _, op := Op.load 43 _, type := _, pos := _, after := _, guard := _ } :: _) _ _; refine Shut.out ?_)
    show wpList _ _ _ _ _ _
    refine wpList_load_want (by kernel_rfl) _ _ rfl w.heap.size 32 rfl (cb y) _ (HRg _ HYU.out).out.2 Tryd.underlying43 rfl (by rw [cb_length, HX.out.2]; kernel_rfl) ?_
    simp only [Act.put, List.setIfInBounds_toArray, List.set_cons_zero, List.set_cons_succ]
    refine wpList_yield_want (by kernel_rfl) (v := .bool false) (exec_neq32 rfl y rfl rfl HX.out.2 _) ?_
    simp only [Act.put, List.setIfInBounds_toArray, List.set_cons_zero, List.set_cons_succ]
    have hln : decide ((873 : Int) < (s.size : Int)) = false := by
      have h1 := HO.out.len
      have h2 := Go.Lib.size_eq s
      rw [decide_eq_false_iff_not]
      omega
    clear HY1 HY2 HLt8
    obtain ⟨c, HEc, HUc⟩ := HO.out.EP
    obtain ⟨d, HEd, HUd⟩ := HO.out.EV
    clear HO
    go_wp2_with fail
    refine ((HEc _ HYU.out).out).mono ?_
    rintro e w10 ⟨rfl, u10⟩
    have H10 := Hid.of (HYU.out.trans u10)
    have Hu10 := Hid.of u10
    clear u10
    dsimp only
    go_wp2_with fail
    refine ((HEd _ H10.out).out).mono ?_
    rintro e w11 ⟨rfl, u11⟩
    have H11 := Hid.of (H10.out.trans u11)
    have Hu11 := Hid.of u11
    clear u11
    dsimp only
    go_wp2_with fail
    refine ((HUc _ H11.out).out).mono ?_
    rintro e w12 ⟨rfl, u12⟩
    have H12 := Hid.of (H11.out.trans u12)
    have Hu12 := Hid.of u12
    clear u12
    dsimp only
    go_wp2_with fail
    refine ((HUd _ H12.out).out).mono ?_
    rintro e w13 ⟨rfl, u13⟩
    have H13 := Hid.of (H12.out.trans u13)
    have Hu13 := Hid.of u13
    clear u13
    dsimp only
    go_wp2
    go_ret
    exact ⟨by first | rfl | simp, HU0.out.trans H13.out⟩
  · skip
    go_wp2_with fail
    refine ((HM _ H6.out).out).mono ?_
    rintro e w7 ⟨rfl, u7⟩
    have H7 := Hid.of (H6.out.trans u7)
    have Hu7 := Hid.of u7
    clear u7
    dsimp only
    go_wp2
    go_ret
    exact ⟨by simp, HU0.out.trans H7.out⟩
end Go.Proofs.YtfhdddhapjdocaaDoor
