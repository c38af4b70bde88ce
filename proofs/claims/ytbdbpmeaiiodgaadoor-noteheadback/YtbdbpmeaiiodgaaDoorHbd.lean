import Derived.Test.YtbdbpmeaiiodgaaDoorHb
namespace Go.Proofs.YtbdbpmeaiiodgaaDoor
open Go.RowKit Go.Shelf TextNum
set_option maxRecDepth 100000 in
set_option maxHeartbeats 4000000 in
theorem headBack_d (o : ByteArray) (n : Int) (r : List UInt8) (hr : r.length = 32) (h0 : -9223372036854775808 ≤ n) (h1 : n ≤ 9223372036854775807) (s : ByteArray) (w : World) (hG : GH w) (hn : nameR o = 0) (hneg : ¬ n < 0) (hbig : ¬ 281474976710656 < n) :
    Calls Tryd.prog 6 #[headV o n r, .string s] w fun e w' => e = .returned (.bool true) ∧ Up w w' := by
  have hl := HL.new w 54 o n r hr
  have hrg0 : (w.alloc (.cells (headC o n r).toArray 54)).rangeAt w.heap.size 0 (headC o n r) := fun j v hv => by rw [World.cell?_alloc_at _ _ _ _ rfl, List.getElem?_toArray, Nat.zero_add]; exact hv
  have HU := Hid.of ((Up.refl w).alloc (.cells (headC o n r).toArray 54))
  have HLR := Hid.of (And.intro hl hrg0)
  clear hl hrg0
  unfold headV
  have hcl := headC_len (o := o) (n := n) hr
  generalize hcs : headC o n r = cs at *
  have HCS := Hid.of hcs
  clear hcs
  go_enter Tryd.func6, Tryd.ntmps6
  go_wp2_with fail
  generalize w.alloc (Obj.cells cs.toArray 54) = W1 at *
  refine (FormatHead_walk ⟨#[108, 111, 103]⟩ 7 (List.replicate 32 0) rfl (by decide) (by decide) W1 (hG.up HU.out)).mono ?_
  rintro e W2 ⟨rfl, u2⟩
  rw [log_fmt]
  generalize Value.agg #[Value.string { data := #[108, 111, 103] }, Value.int IntKind.i64 7, Value.int IntKind.u8 0, Value.int IntKind.u8 0, Value.int IntKind.u8 0, Value.int IntKind.u8 0, Value.int IntKind.u8 0, Value.int IntKind.u8 0, Value.int IntKind.u8 0, Value.int IntKind.u8 0, Value.int IntKind.u8 0, Value.int IntKind.u8 0, Value.int IntKind.u8 0, Value.int IntKind.u8 0, Value.int IntKind.u8 0, Value.int IntKind.u8 0, Value.int IntKind.u8 0, Value.int IntKind.u8 0, Value.int IntKind.u8 0, Value.int IntKind.u8 0, Value.int IntKind.u8 0, Value.int IntKind.u8 0, Value.int IntKind.u8 0, Value.int IntKind.u8 0, Value.int IntKind.u8 0, Value.int IntKind.u8 0, Value.int IntKind.u8 0, Value.int IntKind.u8 0, Value.int IntKind.u8 0, Value.int IntKind.u8 0, Value.int IntKind.u8 0, Value.int IntKind.u8 0, Value.int IntKind.u8 0, Value.int IntKind.u8 0] = zl
  have HU2 := Hid.of (HU.out.trans u2)
  have HLR2 := Hid.of (And.intro (HLR.out.1.up u2) (range_up HLR.out.2 u2))
  clear u2 HU HLR
  dsimp only
  go_wp2_with (first | (go_at_call 20; refine (num_walk _ _).mono ?_; rintro e w9 ⟨rfl, hw9⟩; obtain rfl := hw9.symm) | (with_reducible show wpList _ _ _ ({ dst := _, op := Op.load 54 _, type := _, pos := _, after := _, guard := _ } :: _) _ _; refine Shut.out ?_))
  show wpList _ _ _ _ _ _
  refine wpList_load_mid rfl _ _ rfl w.heap.size 0 rfl cs _ HLR2.out.2 Tryd.underlying54 rfl (by rw [hcl]; exact infoH) ?_
  simp only [Act.put, List.setIfInBounds_toArray, List.set_cons_zero, List.set_cons_succ]
  go_wp2_with fail
  rw [show Value.agg cs.toArray = headV o n r by unfold headV; rw [HCS.out]]
  refine (FormatHead_walk o n r hr h0 h1 W2 (hG.up HU2.out)).mono ?_
  rintro e W3 ⟨rfl, u3⟩
  dsimp only
  have HU3 := Hid.of (HU2.out.trans u3)
  have HLR3 := Hid.of (And.intro (HLR2.out.1.up u3) (range_up HLR2.out.2 u3))
  clear u3 HU2 HLR2
  have c0 := HLR3.out.1.c0
  have c1 := HLR3.out.1.c1
  go_wp2_with fail
  refine (CheckName_walk o W3 (hG.up HU3.out).s).mono ?_
  rintro e W4 ⟨rfl, u4⟩
  dsimp only
  have HU4 := Hid.of (HU3.out.trans u4)
  have HLR4 := Hid.of (And.intro (HLR3.out.1.up u4) (range_up HLR3.out.2 u4))
  clear c0 c1
  have c0 := HLR4.out.1.c0
  have c1 := HLR4.out.1.c1
  clear u4 HU3 HLR3
  have HF := Hid.of (show fmtH o n r = (headT o n r, 0) by unfold fmtH; rw [if_neg (by simp [hn]), if_neg (by omega)])
  have HB := Hid.of (head_back hn (by omega) (by omega) hr)
  have hcat := cat_eq o (Go.Lib.itoa n) (b64E r)
  rw [show o.data.toList ++ [10] ++ Go.Lib.itoa n ++ [10] ++ b64E r ++ [10] = headT o n r from rfl] at hcat
  have hil := (itoa_len n h0 h1).1
  have hbl : (b64E r).length = 44 := by rw [b64E_length, hr]
  have hol : o.size ≤ 100 := ((name_iff o).1 hn).2.1
  rw [HF.out, hn]
  generalize hht : headT o n r = ht at *
  generalize hit : Go.Lib.itoa n = it at *
  generalize hbe : b64E r = be at *
  have HI := Hid.of (And.intro hit (And.intro hbe hht))
  clear hit hbe hht
  have q1 : ¬ 9223372036854775807 < o.size + 1 := by omega
  have q2 : ¬ 9223372036854775807 < o.size + 1 + it.length := by omega
  have q3 : ¬ 9223372036854775807 < o.size + 1 + it.length + 1 := by omega
  have q4 : ¬ 9223372036854775807 < o.size + 1 + it.length + 1 + be.length := by omega
  have q5 : ¬ 9223372036854775807 < o.size + 1 + it.length + 1 + be.length + 1 := by omega
  clear hil hbl hol
  go_wp2_with (go_at_call 20; refine (num_walk _ _).mono ?_; rintro e w9 ⟨rfl, hw9⟩; obtain rfl := hw9.symm)
  refine (ParseHead_walk ⟨ht.toArray⟩ W4 (hG.up HU4.out)).mono ?_
  rintro e W5 ⟨rfl, u5⟩
  rw [show (⟨ht.toArray⟩ : ByteArray).data.toList = ht from rfl, HB.out]
  rw [show hdC (some (o.data.toList, n, r)) = cs from HCS.out, show hdE (some (o.data.toList, n, r)) = 0 from rfl]
  dsimp only
  have HU5 := Hid.of (HU4.out.trans u5)
  have HLR5 := Hid.of (And.intro (HLR4.out.1.up u5) (range_up HLR4.out.2 u5))
  clear c0 c1 u5 HU4 HLR4
  go_wp2_with (with_reducible show wpList _ _ _ ({ dst := _, op := Op.store 54 (.tmp 9) _, type := _, pos := _, after := _, guard := _ } :: _) _ _; refine Shut.out ?_)
  show wpList _ _ _ _ _ _
  change wpList _ _ _ _ _ (W5.alloc (Obj.cells zeroC.toArray 54))
  have t6 := there_new W5 zeroC 54
  have u6 := (Up.refl W5).alloc (Obj.cells zeroC.toArray 54)
  have hwb : w.heap.size < W5.heap.size := block_lt_of_cell HLR5.out.1.c0
  generalize W5.alloc (Obj.cells zeroC.toArray 54) = W6 at *
  have hone : ∀ v, v ∈ cs → v.oneCell' = true := by rw [← HCS.out]; exact headC_one _ _ _
  refine wpList_store_mid rfl _ _ _ rfl W5.heap.size 0 cs.toArray rfl rfl (by rw [show cs.toArray.size = 34 from hcl]; exact t6) (by rw [show cs.toArray.size = 34 from hcl]; exact infoH) (all_oneCell_toArray hone) ?_
  simp only [Act.put]
  have r7 : (World.setCells W6 W5.heap.size 0 cs.toArray.toList).rangeAt W5.heap.size 0 cs := World.rangeAt_setCells_same _ _ _ _ (by rw [show cs.toArray.toList.length = 34 from hcl]; exact t6)
  have uz : Up W5 (World.setCells W6 W5.heap.size 0 cs.toArray.toList) := up_setCells (Nat.le_refl _) _ 0 u6
  have HU7 := Hid.of (HU5.out.trans uz)
  have HLR7 := Hid.of (And.intro (HLR5.out.1.up uz) (range_up HLR5.out.2 uz))
  generalize World.setCells W6 W5.heap.size 0 cs.toArray.toList = W7 at *
  generalize W5.heap.size = WB at *
  have HR7 := Hid.of r7
  clear t6 u6 uz r7 HU5 HLR5 hwb
  go_wp2_with fail
  refine wp_region_held_drew (S := fun w2 => w2.cell? ⟨w.heap.size, 0, none⟩ = some (.string o) ∧ w2.cell? ⟨w.heap.size, 1, none⟩ = some (.int .i64 n) ∧ w2.rangeAt w.heap.size 0 cs ∧ w2.rangeAt WB 0 cs ∧ Up w w2) (by kernel_rfl) ⟨HLR7.out.1.c0, HLR7.out.1.c1, HLR7.out.2, HR7.out, HU7.out.drew⟩ (fun hS => ?_)
  refine wpAnyH_take (i := 0) (oi := { dst := some 70, op := Op.move (Operand.tmp 6), type := 26, pos := "outright.go:361", after := #[], guard := none }) (v := .int .i64 0) rfl (by kernel_rfl) (by kernel_rfl) (by kernel_rfl) (fun _ _ _ h => h) (Or.inl ⟨by kernel_rfl, ?_⟩) hS ?_
  · intro w5 hSw
    go_simp
  simp only [Act.put, List.setIfInBounds_toArray, List.set_cons_zero, List.set_cons_succ]
  refine wpAnyH_ready (rs := [1]) (by kernel_rfl) (by simp) ?_
  refine AllReadyH.cons (o := { dst := some 71, op := Op.call { callee := Callee.value (Operand.func 20), args := #[Operand.tmp 70], argTypes := #[26] }, type := 3, pos := "outright.go:361", after := #[{ on := 0, ground := Ground.data }], guard := none }) rfl (fun K hK => ?_) AllReadyH.nil
  rw [if_pos (by kernel_rfl)]
  go_simp
  refine (num_walk _ _).mono ?_
  rintro e w9 ⟨rfl, hw9⟩
  obtain rfl := hw9.symm
  dsimp only
  refine hK.out _ _ hS (fun hS1 => ?_)
  clear hK
  refine wpAnyH_take (i := 2) (oi := { dst := some 72, op := Op.binOp BinOp.neq 3 (Operand.tmp 71) (Operand.const (Value.int IntKind.i64 0)) 3, type := 4, pos := "outright.go:361", after := #[{ on := 1, ground := Ground.data }], guard := none }) (v := .bool false) rfl (by kernel_rfl) (by kernel_rfl) (by kernel_rfl) (fun _ _ _ h => h) (Or.inl ⟨by kernel_rfl, ?_⟩) hS ?_
  · intro w5 hSw
    go_simp
  simp only [Act.put, List.setIfInBounds_toArray, List.set_cons_zero, List.set_cons_succ]
  refine wpAnyH_take (i := 3) (oi := { dst := some 73, op := Op.move (Operand.tmp 72), type := 4, pos := "outright.go:361", after := #[{ on := 2, ground := Ground.data }, { on := 1, ground := Ground.chain }], guard := none }) (v := .bool false) rfl (by kernel_rfl) (by kernel_rfl) (by kernel_rfl) (fun _ _ _ h => h) (Or.inl ⟨by kernel_rfl, ?_⟩) hS ?_
  · intro w5 hSw
    go_simp
  simp only [Act.put, List.setIfInBounds_toArray, List.set_cons_zero, List.set_cons_succ]
  refine wpAnyH_take (i := 4) (oi := { dst := some 74, op := Op.move (Operand.tmp 10), type := 26, pos := "outright.go:361", after := #[{ on := 3, ground := Ground.guard }], guard := some (3, false) }) (v := .int .i64 0) rfl (by kernel_rfl) (by kernel_rfl) (by kernel_rfl) (fun _ _ _ h => h) (Or.inl ⟨by kernel_rfl, ?_⟩) hS ?_
  · intro w5 hSw
    go_simp
  simp only [Act.put, List.setIfInBounds_toArray, List.set_cons_zero, List.set_cons_succ]
  refine wpAnyH_ready (rs := [5]) (by kernel_rfl) (by simp) ?_
  refine AllReadyH.cons (o := { dst := some 75, op := Op.call { callee := Callee.value (Operand.func 20), args := #[Operand.tmp 74], argTypes := #[26] }, type := 3, pos := "outright.go:361", after := #[{ on := 4, ground := Ground.data }, { on := 3, ground := Ground.chain }, { on := 3, ground := Ground.guard }], guard := some (3, false) }) rfl (fun K hK => ?_) AllReadyH.nil
  rw [if_pos (by kernel_rfl)]
  go_simp
  refine (num_walk _ _).mono ?_
  rintro e w9 ⟨rfl, hw9⟩
  obtain rfl := hw9.symm
  dsimp only
  refine hK.out _ _ hS (fun hS2 => ?_)
  clear hK
  refine wpAnyH_take (i := 6) (oi := { dst := some 76, op := Op.binOp BinOp.neq 3 (Operand.tmp 75) (Operand.const (Value.int IntKind.i64 0)) 3, type := 4, pos := "outright.go:361", after := #[{ on := 5, ground := Ground.data }, { on := 3, ground := Ground.guard }], guard := some (3, false) }) (v := .bool false) rfl (by kernel_rfl) (by kernel_rfl) (by kernel_rfl) (fun _ _ _ h => h) (Or.inl ⟨by kernel_rfl, ?_⟩) hS ?_
  · intro w5 hSw
    go_simp
  simp only [Act.put, List.setIfInBounds_toArray, List.set_cons_zero, List.set_cons_succ]
  refine wpAnyH_take (i := 7) (oi := { dst := some 77, op := Op.pick (Operand.tmp 73) (Operand.const (Value.bool true)) (Operand.tmp 76), type := 4, pos := "outright.go:361", after := #[{ on := 3, ground := Ground.data }, { on := 6, ground := Ground.data }], guard := none }) (v := .bool false) rfl (by kernel_rfl) (by kernel_rfl) (by kernel_rfl) (fun _ _ _ h => h) (Or.inl ⟨by kernel_rfl, ?_⟩) hS ?_
  · intro w5 hSw
    go_simp
  simp only [Act.put, List.setIfInBounds_toArray, List.set_cons_zero, List.set_cons_succ]
  refine wpAnyH_take (i := 8) (oi := { dst := some 78, op := Op.move (Operand.tmp 77), type := 4, pos := "outright.go:361", after := #[{ on := 7, ground := Ground.data }, { on := 5, ground := Ground.chain }], guard := none }) (v := .bool false) rfl (by kernel_rfl) (by kernel_rfl) (by kernel_rfl) (fun _ _ _ h => h) (Or.inl ⟨by kernel_rfl, ?_⟩) hS ?_
  · intro w5 hSw
    go_simp
  simp only [Act.put, List.setIfInBounds_toArray, List.set_cons_zero, List.set_cons_succ]
  refine wpAnyH_take (i := 9) (oi := { dst := some 79, op := Op.load 54 (Operand.tmp 9), type := 54, pos := "outright.go:361", after := #[{ on := 8, ground := Ground.guard }], guard := some (8, false) }) (v := .agg cs.toArray) rfl (by kernel_rfl) (by kernel_rfl) (by kernel_rfl) (fun _ _ _ h => h) (yieldsIf_load_mid (by kernel_rfl) _ _ rfl WB 0 rfl cs _ (fun w5 hSw => hSw.2.2.2.1) Tryd.underlying54 rfl (by rw [hcl]; exact infoH)) hS ?_
  simp only [Act.put, List.setIfInBounds_toArray, List.set_cons_zero, List.set_cons_succ]
  refine wpAnyH_take (i := 10) (oi := { dst := some 80, op := Op.load 54 (Operand.tmp 2), type := 54, pos := "outright.go:361", after := #[{ on := 8, ground := Ground.guard }], guard := some (8, false) }) (v := .agg cs.toArray) rfl (by kernel_rfl) (by kernel_rfl) (by kernel_rfl) (fun _ _ _ h => h) (yieldsIf_load_mid (by kernel_rfl) _ _ rfl w.heap.size 0 rfl cs _ (fun w5 hSw => hSw.2.2.1) Tryd.underlying54 rfl (by rw [hcl]; exact infoH)) hS ?_
  simp only [Act.put, List.setIfInBounds_toArray, List.set_cons_zero, List.set_cons_succ]
  refine wpAnyH_take (i := 11) (oi := { dst := some 81, op := Op.binOp BinOp.neq 54 (Operand.tmp 79) (Operand.tmp 80) 54, type := 4, pos := "outright.go:361", after := #[{ on := 9, ground := Ground.data }, { on := 10, ground := Ground.data }, { on := 8, ground := Ground.guard }], guard := some (8, false) }) (v := .bool false) rfl (by kernel_rfl) (by kernel_rfl) (by kernel_rfl) (fun _ _ _ h => h) (Or.inl ⟨by kernel_rfl, ?_⟩) hS ?_
  · intro w5 hSw
    exact exec_neqH rfl o n r (by show Value.agg cs.toArray = headV o n r; unfold headV; rw [HCS.out]) (by show Value.agg cs.toArray = headV o n r; unfold headV; rw [HCS.out]) hr w5
  simp only [Act.put, List.setIfInBounds_toArray, List.set_cons_zero, List.set_cons_succ]
  refine wpAnyH_take (i := 12) (oi := { dst := some 82, op := Op.pick (Operand.tmp 78) (Operand.const (Value.bool true)) (Operand.tmp 81), type := 4, pos := "outright.go:361", after := #[{ on := 8, ground := Ground.data }, { on := 11, ground := Ground.data }], guard := none }) (v := .bool false) rfl (by kernel_rfl) (by kernel_rfl) (by kernel_rfl) (fun _ _ _ h => h) (Or.inl ⟨by kernel_rfl, ?_⟩) hS ?_
  · intro w5 hSw
    go_simp
  simp only [Act.put, List.setIfInBounds_toArray, List.set_cons_zero, List.set_cons_succ]
  refine wpAnyH_take (i := 13) (oi := { dst := some 83, op := Op.move (Operand.tmp 82), type := 4, pos := "outright.go:361", after := #[{ on := 12, ground := Ground.data }, { on := 8, ground := Ground.chain }], guard := none }) (v := .bool false) rfl (by kernel_rfl) (by kernel_rfl) (by kernel_rfl) (fun _ _ _ h => h) (Or.inl ⟨by kernel_rfl, ?_⟩) hS ?_
  · intro w5 hSw
    go_simp
  simp only [Act.put, List.setIfInBounds_toArray, List.set_cons_zero, List.set_cons_succ]
  refine wpAnyH_take (i := 14) (oi := { dst := some 84, op := Op.move (Operand.tmp 7), type := 9, pos := "outright.go:361", after := #[{ on := 13, ground := Ground.guard }], guard := some (13, false) }) (v := vs ht) rfl (by kernel_rfl) (by kernel_rfl) (by kernel_rfl) (fun _ _ _ h => h) (Or.inl ⟨by kernel_rfl, ?_⟩) hS ?_
  · intro w5 hSw
    go_simp
  simp only [Act.put, List.setIfInBounds_toArray, List.set_cons_zero, List.set_cons_succ]
  refine wpAnyH_take (i := 15) (oi := { dst := some 85, op := Op.fieldAddr 54 (Operand.tmp 2) 0, type := 0, pos := "outright.go:361", after := #[{ on := 13, ground := Ground.guard }], guard := some (13, false) }) (v := .pointer (some ⟨w.heap.size, 0, none⟩)) rfl (by kernel_rfl) (by kernel_rfl) (by kernel_rfl) (fun _ _ _ h => h) (Or.inl ⟨by kernel_rfl, ?_⟩) hS ?_
  · intro w5 hSw
    go_simp
  simp only [Act.put, List.setIfInBounds_toArray, List.set_cons_zero, List.set_cons_succ]
  refine wpAnyH_take (i := 16) (oi := { dst := some 86, op := Op.load 9 (Operand.tmp 85), type := 9, pos := "outright.go:361", after := #[{ on := 15, ground := Ground.data }, { on := 13, ground := Ground.guard }], guard := some (13, false) }) (v := .string o) rfl (by kernel_rfl) (by kernel_rfl) (by kernel_rfl) (fun _ _ _ h => h) (Or.inl ⟨by kernel_rfl, ?_⟩) hS ?_
  · intro w5 hSw
    have h5 := hSw.1
    go_simp
  simp only [Act.put, List.setIfInBounds_toArray, List.set_cons_zero, List.set_cons_succ]
  refine wpAnyH_take (i := 17) (oi := { dst := some 87, op := Op.binOp BinOp.add 9 (Operand.tmp 86) (Operand.const (Value.string { data := #[10] })) 9, type := 9, pos := "outright.go:361", after := #[{ on := 16, ground := Ground.data }, { on := 13, ground := Ground.guard }], guard := some (13, false) }) (v := .string (o ++ ⟨#[10]⟩)) rfl (by kernel_rfl) (by kernel_rfl) (by kernel_rfl) (fun _ _ _ h => h) (Or.inl ⟨by kernel_rfl, ?_⟩) hS ?_
  · intro w5 hSw
    go_simp
  simp only [Act.put, List.setIfInBounds_toArray, List.set_cons_zero, List.set_cons_succ]
  refine wpAnyH_take (i := 18) (oi := { dst := some 88, op := Op.fieldAddr 54 (Operand.tmp 2) 1, type := 0, pos := "outright.go:361", after := #[{ on := 13, ground := Ground.guard }], guard := some (13, false) }) (v := .pointer (some ⟨w.heap.size, 1, none⟩)) rfl (by kernel_rfl) (by kernel_rfl) (by kernel_rfl) (fun _ _ _ h => h) (Or.inl ⟨by kernel_rfl, ?_⟩) hS ?_
  · intro w5 hSw
    go_simp
  simp only [Act.put, List.setIfInBounds_toArray, List.set_cons_zero, List.set_cons_succ]
  refine wpAnyH_take (i := 19) (oi := { dst := some 89, op := Op.load 2 (Operand.tmp 88), type := 2, pos := "outright.go:361", after := #[{ on := 18, ground := Ground.data }, { on := 13, ground := Ground.guard }], guard := some (13, false) }) (v := .int .i64 n) rfl (by kernel_rfl) (by kernel_rfl) (by kernel_rfl) (fun _ _ _ h => h) (Or.inl ⟨by kernel_rfl, ?_⟩) hS ?_
  · intro w5 hSw
    have h5 := hSw.2.1
    go_simp
  simp only [Act.put, List.setIfInBounds_toArray, List.set_cons_zero, List.set_cons_succ]
  refine wpAnyH_take (i := 23) (oi := { dst := some 93, op := Op.fieldAddr 54 (Operand.tmp 2) 2, type := 0, pos := "outright.go:361", after := #[{ on := 13, ground := Ground.guard }], guard := some (13, false) }) (v := .pointer (some ⟨w.heap.size, 2, none⟩)) rfl (by kernel_rfl) (by kernel_rfl) (by kernel_rfl) (fun _ _ _ h => h) (Or.inl ⟨by kernel_rfl, ?_⟩) hS ?_
  · intro w5 hSw
    go_simp
  simp only [Act.put, List.setIfInBounds_toArray, List.set_cons_zero, List.set_cons_succ]
  refine wpAnyH_take (i := 24) (oi := { dst := some 94, op := Op.slice 52 (Operand.tmp 93) none none none, type := 22, pos := "outright.go:361", after := #[{ on := 23, ground := Ground.data }, { on := 13, ground := Ground.guard }], guard := some (13, false) }) (v := .slice (some ⟨w.heap.size, 2, none⟩) 32 32) rfl (by kernel_rfl) (by kernel_rfl) (by kernel_rfl) (fun _ _ _ h => h) (Or.inl ⟨by kernel_rfl, ?_⟩) hS ?_
  · intro w5 hSw
    go_simp
  simp only [Act.put, List.setIfInBounds_toArray, List.set_cons_zero, List.set_cons_succ]
  refine wpAnyH_ready (rs := [20]) (by kernel_rfl) (by simp) ?_
  refine AllReadyH.cons (o := { dst := some 90, op := Op.call { callee := Callee.value (Operand.func 30), args := #[Operand.tmp 89], argTypes := #[2] }, type := 9, pos := "outright.go:361", after := #[{ on := 19, ground := Ground.data }, { on := 13, ground := Ground.chain }, { on := 13, ground := Ground.guard }], guard := some (13, false) }) rfl (fun K hK => ?_) AllReadyH.nil
  rw [if_pos (by kernel_rfl)]
  go_simp
  refine (FormatNumber_walk n h0 h1 _ (hG.n.up hS.2.2.2.2)).mono ?_
  rintro e w9 ⟨rfl, u9⟩
  rw [HI.out.1]
  dsimp only
  refine hK.out _ _ ⟨u9.cell hS.1, u9.cell hS.2.1, range_up hS.2.2.1 u9, range_up hS.2.2.2.1 u9, hS.2.2.2.2.trans u9⟩ (fun hS3 => ?_)
  clear hK
  refine wpAnyH_take (i := 21) (oi := { dst := some 91, op := Op.binOp BinOp.add 9 (Operand.tmp 87) (Operand.tmp 90) 9, type := 9, pos := "outright.go:361", after := #[{ on := 17, ground := Ground.data }, { on := 20, ground := Ground.data }, { on := 13, ground := Ground.guard }], guard := some (13, false) }) (v := .string (o ++ ⟨#[10]⟩ ++ ⟨it.toArray⟩)) rfl (by kernel_rfl) (by kernel_rfl) (by kernel_rfl) (fun _ _ _ h => h) (Or.inl ⟨by kernel_rfl, ?_⟩) hS3 ?_
  · intro w5 hSw
    go_simp
  simp only [Act.put, List.setIfInBounds_toArray, List.set_cons_zero, List.set_cons_succ]
  refine wpAnyH_take (i := 22) (oi := { dst := some 92, op := Op.binOp BinOp.add 9 (Operand.tmp 91) (Operand.const (Value.string { data := #[10] })) 9, type := 9, pos := "outright.go:361", after := #[{ on := 21, ground := Ground.data }, { on := 13, ground := Ground.guard }], guard := some (13, false) }) (v := .string (o ++ ⟨#[10]⟩ ++ ⟨it.toArray⟩ ++ ⟨#[10]⟩)) rfl (by kernel_rfl) (by kernel_rfl) (by kernel_rfl) (fun _ _ _ h => h) (Or.inl ⟨by kernel_rfl, ?_⟩) hS3 ?_
  · intro w5 hSw
    go_simp
  simp only [Act.put, List.setIfInBounds_toArray, List.set_cons_zero, List.set_cons_succ]
  refine wpAnyH_ready (rs := [25]) (by kernel_rfl) (by simp) ?_
  refine AllReadyH.cons (o := { dst := some 95, op := Op.call { callee := Callee.value (Operand.func 10), args := #[Operand.tmp 94], argTypes := #[22] }, type := 9, pos := "outright.go:361", after := #[{ on := 24, ground := Ground.data }, { on := 20, ground := Ground.chain }, { on := 13, ground := Ground.guard }], guard := some (13, false) }) rfl (fun K hK => ?_) AllReadyH.nil
  rw [if_pos (by kernel_rfl)]
  go_simp
  refine (EncodeBase64_walk _ r _ (hG.l.up hS3.2.2.2.2) (sl_head hS3.2.2.1 HCS.out hr) (by omega)).mono ?_
  rintro e w10 ⟨rfl, u10⟩
  rw [HI.out.2.1]
  dsimp only
  refine hK.out _ _ ⟨u10.cell hS3.1, u10.cell hS3.2.1, range_up hS3.2.2.1 u10, range_up hS3.2.2.2.1 u10, hS3.2.2.2.2.trans u10⟩ (fun hS4 => ?_)
  clear hK
  refine wpAnyH_take (i := 26) (oi := { dst := some 96, op := Op.binOp BinOp.add 9 (Operand.tmp 92) (Operand.tmp 95) 9, type := 9, pos := "outright.go:361", after := #[{ on := 22, ground := Ground.data }, { on := 25, ground := Ground.data }, { on := 13, ground := Ground.guard }], guard := some (13, false) }) (v := .string (o ++ ⟨#[10]⟩ ++ ⟨it.toArray⟩ ++ ⟨#[10]⟩ ++ ⟨be.toArray⟩)) rfl (by kernel_rfl) (by kernel_rfl) (by kernel_rfl) (fun _ _ _ h => h) (Or.inl ⟨by kernel_rfl, ?_⟩) hS4 ?_
  · intro w5 hSw
    go_simp
  simp only [Act.put, List.setIfInBounds_toArray, List.set_cons_zero, List.set_cons_succ]
  refine wpAnyH_take (i := 27) (oi := { dst := some 97, op := Op.binOp BinOp.add 9 (Operand.tmp 96) (Operand.const (Value.string { data := #[10] })) 9, type := 9, pos := "outright.go:361", after := #[{ on := 26, ground := Ground.data }, { on := 13, ground := Ground.guard }], guard := some (13, false) }) (v := .string (o ++ ⟨#[10]⟩ ++ ⟨it.toArray⟩ ++ ⟨#[10]⟩ ++ ⟨be.toArray⟩ ++ ⟨#[10]⟩)) rfl (by kernel_rfl) (by kernel_rfl) (by kernel_rfl) (fun _ _ _ h => h) (Or.inl ⟨by kernel_rfl, ?_⟩) hS4 ?_
  · intro w5 hSw
    go_simp
  simp only [Act.put, List.setIfInBounds_toArray, List.set_cons_zero, List.set_cons_succ]
  refine wpAnyH_take (i := 28) (oi := { dst := some 98, op := Op.binOp BinOp.neq 9 (Operand.tmp 84) (Operand.tmp 97) 9, type := 4, pos := "outright.go:361", after := #[{ on := 14, ground := Ground.data }, { on := 27, ground := Ground.data }, { on := 13, ground := Ground.guard }], guard := some (13, false) }) (v := .bool false) rfl (by kernel_rfl) (by kernel_rfl) (by kernel_rfl) (fun _ _ _ h => h) (Or.inl ⟨by kernel_rfl, ?_⟩) hS4 ?_
  · intro w5 hSw
    rw [hcat]
    go_simp
  simp only [Act.put, List.setIfInBounds_toArray, List.set_cons_zero, List.set_cons_succ]
  refine wpAnyH_take (i := 29) (oi := { dst := some 99, op := Op.pick (Operand.tmp 83) (Operand.const (Value.bool true)) (Operand.tmp 98), type := 4, pos := "outright.go:361", after := #[{ on := 13, ground := Ground.data }, { on := 28, ground := Ground.data }], guard := none }) (v := .bool false) rfl (by kernel_rfl) (by kernel_rfl) (by kernel_rfl) (fun _ _ _ h => h) (Or.inl ⟨by kernel_rfl, ?_⟩) hS4 ?_
  · intro w5 hSw
    go_simp
  simp only [Act.put, List.setIfInBounds_toArray, List.set_cons_zero, List.set_cons_succ]
  refine wpAnyH_done (by kernel_rfl) ?_ _
  have HU8 := Hid.of hS4.2.2.2.2
  clear hS hS1 hS2 hS3 hS4 HLR7 HR7 HU7 HB HI hcat q1 q2 q3 q4 q5
  go_wp2_with (go_at_call 20; refine (num_walk _ _).mono ?_; rintro e w9 ⟨rfl, hw9⟩; obtain rfl := hw9.symm)
  refine (ParseHead_walk s w10 (hG.up HU8.out)).mono ?_
  rintro e W6 ⟨rfl, u6⟩
  dsimp only
  have HU6 := Hid.of (HU8.out.trans u6)
  clear u6
  have hlen := hdC_len s.data.toList
  have hone := hdC_one (rdH s.data.toList)
  go_wp2_with (with_reducible show wpList _ _ _ ({ dst := _, op := Op.store 54 (.tmp 11) _, type := _, pos := _, after := _, guard := _ } :: _) _ _; refine Shut.out ?_)
  show wpList _ _ _ _ _ _
  change wpList _ _ _ _ _ (W6.alloc (Obj.cells zeroC.toArray 54))
  have t7 := there_new W6 zeroC 54
  have u7 := (Up.refl W6).alloc (Obj.cells zeroC.toArray 54)
  generalize W6.alloc (Obj.cells zeroC.toArray 54) = W7 at *
  refine wpList_store_mid rfl _ _ _ rfl W6.heap.size 0 (hdC (rdH s.data.toList)).toArray rfl rfl (by rw [show (hdC (rdH s.data.toList)).toArray.size = 34 from hlen]; exact t7) (by rw [show (hdC (rdH s.data.toList)).toArray.size = 34 from hlen]; exact infoH) (all_oneCell_toArray hone) ?_
  simp only [Act.put]
  have r8 : (World.setCells W7 W6.heap.size 0 (hdC (rdH s.data.toList)).toArray.toList).rangeAt W6.heap.size 0 (hdC (rdH s.data.toList)) := World.rangeAt_setCells_same _ _ _ _ (by rw [show (hdC (rdH s.data.toList)).toArray.toList.length = 34 from hlen]; exact t7)
  have HU8 := Hid.of (up_setCells (W := w) HU6.out.size (hdC (rdH s.data.toList)).toArray.toList 0 (HU6.out.trans u7))
  generalize World.setCells W7 W6.heap.size 0 (hdC (rdH s.data.toList)).toArray.toList = W8 at *
  have HR8 := Hid.of r8
  clear t7 u7 r8 HU6
  cases hrd : rdH s.data.toList with
  | none =>
    rw [hrd] at HR8 hlen
    rw [show hdE none = 77 from rfl]
    go_wp2_with (first | (go_at_call 20; refine (num_walk _ _).mono ?_; rintro e w9 ⟨rfl, hw9⟩; obtain rfl := hw9.symm) | (with_reducible show wpList _ _ _ ({ dst := _, op := Op.load 54 _, type := _, pos := _, after := _, guard := _ } :: _) _ _; refine Shut.out ?_))
    show wpList _ _ _ _ _ _
    refine wpList_load_mid rfl _ _ rfl W6.heap.size 0 rfl zeroC _ HR8.out Tryd.underlying54 rfl infoH ?_
    simp only [Act.put, List.setIfInBounds_toArray, List.set_cons_zero, List.set_cons_succ]
    go_wp2_with (with_reducible show wpList _ _ _ ({ dst := _, op := Op.binOp BinOp.eql 54 _ _ _, type := _, pos := _, after := _, guard := _ } :: _) _ _; refine Shut.out ?_)
    show wpList _ _ _ _ _ _
    refine wpList_yield rfl (v := .bool true) (exec_eqlH rfl ⟨#[]⟩ 0 (List.replicate 32 0) rfl rfl rfl _) ?_
    simp only [Act.put, List.setIfInBounds_toArray, List.set_cons_zero, List.set_cons_succ]
    go_wp2_with (go_at_call 20; refine (num_walk _ _).mono ?_; rintro e w9 ⟨rfl, hw9⟩; obtain rfl := hw9.symm)
    go_ret
    exact ⟨rfl, HU8.out⟩
  | some x =>
    obtain ⟨xa, xn, xr⟩ := x
    obtain ⟨f1, f2, f3, f4⟩ := head_once hrd
    rw [hrd] at HR8 hlen
    rw [show hdE (some (xa, xn, xr)) = 0 from rfl]
    go_wp2_with (first | (go_at_call 20; refine (num_walk _ _).mono ?_; rintro e w9 ⟨rfl, hw9⟩; obtain rfl := hw9.symm) | (with_reducible show wpList _ _ _ ({ dst := _, op := Op.load 54 _, type := _, pos := _, after := _, guard := _ } :: _) _ _; refine Shut.out ?_))
    show wpList _ _ _ _ _ _
    refine wpList_load_mid rfl _ _ rfl W6.heap.size 0 rfl (headC ⟨xa.toArray⟩ xn xr) _ HR8.out Tryd.underlying54 rfl (by rw [headC_len f2]; exact infoH) ?_
    simp only [Act.put, List.setIfInBounds_toArray, List.set_cons_zero, List.set_cons_succ]
    go_wp2_with fail
    refine (FormatHead_walk ⟨xa.toArray⟩ xn xr f2 (by omega) (by omega) W8 (hG.up HU8.out)).mono ?_
    rintro e W9 ⟨rfl, u9⟩
    rw [f1]
    have HU9 := Hid.of (HU8.out.trans u9)
    clear u9
    dsimp only
    rw [show vs s.data.toList = Value.string s from rfl]
    go_wp2_with (go_at_call 20; refine (num_walk _ _).mono ?_; rintro e w9 ⟨rfl, hw9⟩; obtain rfl := hw9.symm)
    go_ret
    exact ⟨rfl, HU9.out⟩
end Go.Proofs.YtbdbpmeaiiodgaaDoor
