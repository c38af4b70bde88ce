import Derived.Test.YtbdbpmeaiiodgaaDoorNr
import Derived.Test.YtbdbpmeaiiodgaaDoorTa
import Derived.Test.YtbdbpmeaiiodgaaDoorHs
import Derived.Stop.BytesEq
import Derived.ChangeKeysEq
import Derived.Test.YtbdbpmeaiiodgaaDoorHz
import Derived.Test.YtbdbpmeaiiodgaaDoorRph
import Derived.BigFrame
namespace Go.Proofs.YtbdbpmeaiiodgaaDoor
open Go.RowKit TextNum
set_option maxRecDepth 100000 in
theorem num_walk (e : Int) (w : World) : Calls Tryd.prog 20 #[.int .i64 e] w fun r w' => r = .returned (.int .i64 e) ∧ w' = w := by
  go_enter Tryd.func20, Tryd.ntmps20
  go_wp2
  go_ret
  exact ⟨rfl, rfl⟩
theorem u8_of {n : Nat} (h : n < 256) : (UInt8.ofNat n).toNat = n := by rw [UInt8.toNat_ofNat', Nat.mod_eq_of_lt h]
theorem new_cells (w : World) (c : Array Value) (l : List UInt8) (h : c = (cb l).toArray) : Sl (w.alloc (Obj.cells c 5)) (Value.slice (some ⟨w.heap.size, 0, none⟩) l.length l.length) l := by
  subst h
  refine ⟨_, _, rfl, Nat.le_refl _, .inr ⟨_, _, rfl, by rw [World.alloc]; simp, fun j hj => ?_⟩⟩
  rw [World.cell?_alloc_at _ _ _ _ rfl, Nat.zero_add, List.getElem?_toArray, cb_get hj]
theorem new_three (w : World) {i : Nat} (h : i < 64) : Sl (w.alloc (Obj.cells #[Value.int IntKind.u8 226, Value.int IntKind.u8 128, Value.int IntKind.u8 (128 + (i : Int))] 5)) (Value.slice (some ⟨w.heap.size, 0, none⟩) 3 3) [226, 128, UInt8.ofNat (128 + i)] := by
  refine new_cells w _ [226, 128, UInt8.ofNat (128 + i)] ?_
  simp only [cb, List.map_cons, List.map_nil, u8_of (show 128 + i < 256 by omega)]
  simp
set_option maxRecDepth 100000 in
theorem names_walk (s : ByteArray) (hs : s.size ≤ 140737488355328) (w : World) (hW : Go.Lib.WhiteTab 3 w) (hB : BTab w) : Calls Tryd.prog 4 #[.string s] w fun e w' => e = .returned (.bool true) ∧ Up w w' := by
  go_enter Tryd.func4, Tryd.ntmps4
  go_wp2
  go_loopw [3] (fun v3 wr => ∃ i : Nat, v3 = .int .i64 (i : Int) ∧ i ≤ 64 ∧ Hid (Up w wr)) (fun v3 _ => 64 - (intOf v3).toNat)
  case atStart => exact ⟨0, rfl, by omega, Up.refl _⟩
  case round =>
    obtain ⟨i, rfl, hi, hU⟩ := hrel
    by_cases hlt : i < 64
    · have hlt' : (i : Int) < 64 := by omega
      have hcv := conv_sl (new_three wr hlt)
      have HV := Hid.of (hU.out.trans ((Up.refl wr).alloc (Obj.cells #[Value.int IntKind.u8 226, Value.int IntKind.u8 128, Value.int IntKind.u8 (128 + (i : Int))] 5)))
      have hq : ¬ 9223372036854775807 < s.size + [226, 128, UInt8.ofNat (128 + i)].length := by simp only [List.length_cons, List.length_nil]; omega
      generalize [226, 128, UInt8.ofNat (128 + i)] = l3 at hcv hq
      go_wp2_with fail
      clear hcv hq
      generalize wr.alloc (Obj.cells #[Value.int IntKind.u8 226, Value.int IntKind.u8 128, Value.int IntKind.u8 (128 + (i : Int))] 5) = wn at *
      generalize s ++ { data := l3.toArray } = s3
      refine (CheckName_walk s3 wn (WhiteTab_up hW HV.out)).mono ?_
      rintro e w1 ⟨rfl, hu1⟩
      have HU1 := Hid.of (HV.out.trans hu1)
      clear hu1
      dsimp only
      go_wp2_with fail
      refine (num_walk _ w1).mono ?_
      rintro e w2 ⟨rfl, hw2⟩
      obtain rfl := hw2.symm
      dsimp only
      go_wp2_with fail
      refine (RCheckName_walk s3 w1 (hB.up HU1.out)).mono ?_
      rintro e w2 ⟨rfl, hw2⟩
      obtain rfl := hw2.symm
      dsimp only
      generalize nameR s3 = r at *
      have hrr : (r == r) = true := by simp
      go_wp2
      go_roundw
      case rel => exact ⟨i + 1, by go_num, by omega, HU1⟩
      case measure => simp [intOf]; omega
    · have hlt' : ¬ (i : Int) < 64 := by omega
      go_wp2_with fail
      refine (CheckName_walk s wr (WhiteTab_up hW hU.out)).mono ?_
      rintro e w1 ⟨rfl, hu1⟩
      have HU1 := Hid.of (hU.out.trans hu1)
      clear hu1
      dsimp only
      go_wp2_with fail
      refine (num_walk _ w1).mono ?_
      rintro e w2 ⟨rfl, hw2⟩
      obtain rfl := hw2.symm
      dsimp only
      go_wp2_with fail
      refine (RCheckName_walk s w1 (hB.up HU1.out)).mono ?_
      rintro e w2 ⟨rfl, hw2⟩
      obtain rfl := hw2.symm
      dsimp only
      generalize nameR s = r at *
      have hrr : (r == r) = true := by simp
      go_wp2
      go_ret
      exact ⟨rfl, HU1.out⟩
end Go.Proofs.YtbdbpmeaiiodgaaDoor
namespace Go.Proofs.YtbdbpmeaiiodgaaDoor
open Go.RowKit Go.Shelf TextNum
theorem fieldsH : (Tryd.prog.fieldsOf 54).toList = [{ name := "Origin", type := 9, offset := 0, embedded := false, tag := "", pkgPath := "", byteOffset := 0 }, { name := "Size", type := 2, offset := 1, embedded := false, tag := "", pkgPath := "", byteOffset := 16 }, { name := "Root", type := 52, offset := 2, embedded := false, tag := "", pkgPath := "", byteOffset := 24 }] := by kernel_rfl
theorem part_o (o : ByteArray) (n : Int) (r : List UInt8) (w : World) : (part 9 (headC o n r).toArray 0).run Tryd.prog w = .ok (.string o) w :=
  run_part_plain (w := w) (by kernel_rfl) rfl
theorem part_n (o : ByteArray) (n : Int) (r : List UInt8) (w : World) : (part 2 (headC o n r).toArray 1).run Tryd.prog w = .ok (.int .i64 n) w :=
  run_part_plain (w := w) (by kernel_rfl) rfl
theorem part_r (o : ByteArray) (n : Int) (r : List UInt8) (hr : r.length = 32) (w : World) : (part 52 (headC o n r).toArray 2).run Tryd.prog w = .ok (.agg (cb r).toArray) w := by
  have hz : (sizeOf 52).run Tryd.prog w = .ok 32 w := Tryd.sizeOf52 w
  have ha : (isAgg 52).run Tryd.prog w = .ok true w := Tryd.isAgg52 w
  have he : (headC o n r).toArray.extract 2 (2 + 32) = (cb r).toArray := by
    apply Array.toList_inj.1
    rw [Array.toList_extract]
    simp [headC, List.extract]
    rw [List.take_of_length_le (by rw [cb_length, hr]; exact Nat.le_refl _)]
  simp only [part, Sem.run_bind, ha, Result.andThen_ok, if_true, hz, Sem.run_pure, he]
theorem equalR (d : Nat) (r q : List UInt8) (hr : r.length = 32) (hq : q.length = 32) (w : World) : (Op.equalIn (d + 2) 52 (.agg (cb r).toArray) (.agg (cb q).toArray)).run Tryd.prog w = .ok (r == q) w :=
  run_equalIn_bytes w d 52 5 32 Tryd.underlying52 Tryd.underlying5 (fun w => Tryd.sizeOf5 w) r q hr hq
theorem equalH (d : Nat) (o o' : ByteArray) (n n' : Int) (r r' : List UInt8) (hr : r.length = 32) (hr' : r'.length = 32) (w : World) : (Op.equalIn (d + 3) 54 (headV o n r) (headV o' n' r')).run Tryd.prog w = .ok (o.toList == o'.toList && (n == n' && (r == r' && true))) w := by
  unfold headV
  rw [run_equalIn_struct w (d + 2) 54 _ _ (by kernel_rfl) (by kernel_rfl), fieldsH]
  have h1 := equalR d r r' hr hr' w
  simp only [Op.eqFields, Sem.run_bind, Sem.run_ite, part_o, part_n, part_r _ _ _ hr, part_r _ _ _ hr', Result.andThen_ok, h1, run_equalIn_string w _ 9 _ _ Tryd.underlying9, run_equalIn_int w _ 2 .i64 .i64 _ _ Tryd.underlying2]
  cases o.toList == o'.toList <;> cases n == n' <;> cases r == r' <;> simp
theorem exec_neqH {op : Oper} {ρ : Operand → Value} {x y : Operand} {t : TypeId} (ho : op.op = .binOp .neq 54 x y t) (o : ByteArray) (n : Int) (r : List UInt8) (hx : ρ x = headV o n r) (hy : ρ y = headV o n r) (hr : r.length = 32) (w : World) : (execOp ρ op).run Tryd.prog w = .ok (.value (.bool false)) w := by
  have hq := equalH 9997 o o n n r r hr hr w
  unfold headV at *
  unfold execOp
  simp only [ho, hx, hy, Sem.run_bind, run_eqGuard_agg (P := Tryd.prog) (w := w) .neq 54 x y _ _ Tryd.eqGuardType54, run_neq_struct, hq, Result.andThen_ok, Sem.run_pure]
  simp
theorem exec_eqlH {op : Oper} {ρ : Operand → Value} {x y : Operand} {t : TypeId} (ho : op.op = .binOp .eql 54 x y t) (o : ByteArray) (n : Int) (r : List UInt8) (hx : ρ x = headV o n r) (hy : ρ y = headV o n r) (hr : r.length = 32) (w : World) : (execOp ρ op).run Tryd.prog w = .ok (.value (.bool true)) w := by
  have hq := equalH 9997 o o n n r r hr hr w
  unfold headV at *
  unfold execOp
  simp only [ho, hx, hy, Sem.run_bind, run_eqGuard_agg (P := Tryd.prog) (w := w) .eql 54 x y _ _ Tryd.eqGuardType54, run_eql_struct, hq, Result.andThen_ok, Sem.run_pure]
  simp
end Go.Proofs.YtbdbpmeaiiodgaaDoor
namespace Go.Proofs.YtbdbpmeaiiodgaaDoor
open Go.RowKit Go.Shelf TextNum
theorem log_fmt : fmtH ⟨#[108, 111, 103]⟩ 7 (List.replicate 32 0) = ([108, 111, 103, 10, 55, 10, 65, 65, 65, 65, 65, 65, 65, 65, 65, 65, 65, 65, 65, 65, 65, 65, 65, 65, 65, 65, 65, 65, 65, 65, 65, 65, 65, 65, 65, 65, 65, 65, 65, 65, 65, 65, 65, 65, 65, 65, 65, 65, 65, 61, 10], 0) := by decide +kernel
theorem range_up {w w' : World} {b o : Nat} {cs : List Value} (h : w.rangeAt b o cs) (k : Up w w') : w'.rangeAt b o cs := fun j v hv => k.cell (h j v hv)
theorem wpList_yield {P : Program} {ops : Array Oper} {rest : List Oper} {o : Oper} {a : Act} {w : World} {Q : Exit → Act → World → Prop} {v : Value} (hg : o.guard = none)
    (hr : (execOp a.eval o).run P w = .ok (.value v) w) (h : wpList P ops Q rest (a.put o.dst v) w) : wpList P ops Q (o :: rest) a w :=
  wpList_plain hg fun _ hK => by
    unfold Oper.wp
    rw [hr]
    exact hK _ _ h
theorem sl_head {w : World} {b : Nat} {o : ByteArray} {n : Int} {r : List UInt8} {cs : List Value} (h : w.rangeAt b 0 cs) (hc : headC o n r = cs) (hr : r.length = 32) : Sl w (.slice (some ⟨b, 2, none⟩) 32 32) r := by
  subst hc
  have hg : ∀ i (hi : i < r.length), w.cell? ⟨b, 2 + i, none⟩ = some (.int .u8 (r[i].toNat : Int)) := fun i hi => by
    have := h (2 + i) (.int .u8 (r[i].toNat : Int)) (by rw [headC, Nat.add_comm, List.getElem?_cons_succ, List.getElem?_cons_succ, cb_get hi])
    rwa [Nat.zero_add] at this
  exact ⟨_, _, by rw [hr], by omega, .inr ⟨_, _, rfl, block_lt_of_cell (hg 0 (by omega)), hg⟩⟩
end Go.Proofs.YtbdbpmeaiiodgaaDoor
namespace Go.Proofs.YtbdbpmeaiiodgaaDoor
open Go.RowKit Go.Shelf TextNum
theorem wpList_load_want {P : Program} {ops : Array Oper} {rest : List Oper} {op : Oper} {a : Act} {w : World} {Q : Exit → Act → World → Prop} (hw : Region.wanted op (yielded ops a.tmps) = true) (ty : TypeId) (x : Operand) (ho : op.op = .load ty x)
    (b o : Nat) (hx : a.eval x = .pointer (some ⟨b, o, none⟩)) (cs : List Value) (d : TypeDesc) (hc : w.rangeAt b o cs)
    (hu : P.underlying ty = some d) (hd : d.isRow = true) (hi : (P.info? ty).map (·.size) = some cs.length)
    (h : wpList P ops Q rest (a.put op.dst (.agg cs.toArray)) w) : wpList P ops Q (op :: rest) a w :=
  Go.BigFrame.wpList_want hw fun _ hK => wp_load_mid ty x ho b o hx cs d hc hu hd hi (hK _ _ h)
theorem wpList_yield_want {P : Program} {ops : Array Oper} {rest : List Oper} {o : Oper} {a : Act} {w : World} {Q : Exit → Act → World → Prop} {v : Value} (hw : Region.wanted o (yielded ops a.tmps) = true)
    (hr : (execOp a.eval o).run P w = .ok (.value v) w) (h : wpList P ops Q rest (a.put o.dst v) w) : wpList P ops Q (o :: rest) a w :=
  Go.BigFrame.wpList_want hw fun _ hK => by
    unfold Oper.wp
    rw [hr]
    exact hK _ _ h
theorem exec_eqlR {op : Oper} {ρ : Operand → Value} {x y : Operand} {t : TypeId} (ho : op.op = .binOp .eql 52 x y t) (r : List UInt8) (hx : ρ x = .agg (cb r).toArray) (hy : ρ y = .agg (cb r).toArray) (hr : r.length = 32) (w : World) : (execOp ρ op).run Tryd.prog w = .ok (.value (.bool true)) w := by
  have hq := equalR 9998 r r hr hr w
  unfold execOp
  simp only [ho, hx, hy, Sem.run_bind, run_eqGuard_agg (P := Tryd.prog) (w := w) .eql 52 x y _ _ Tryd.eqGuardType52, run_eql_struct, hq, Result.andThen_ok, Sem.run_pure]
  simp
/-- a head, whatever was told -/
theorem hdC_form (l : List UInt8) : ∃ (o : ByteArray) (n : Int) (r : List UInt8), r.length = 32 ∧ hdC (rdH l) = headC o n r := by
  cases h : rdH l with
  | none => exact ⟨⟨#[]⟩, 0, List.replicate 32 0, by simp, rfl⟩
  | some x =>
    obtain ⟨_, a, b, c, _, _, _, _, h6, rfl⟩ := rdH_some h
    exact ⟨_, _, _, h6, rfl⟩
set_option maxRecDepth 100000 in
set_option maxHeartbeats 4000000 in
theorem heads_walk (o : ByteArray) (n : Int) (r : List UInt8) (hr : r.length = 32) (h0 : -9223372036854775808 ≤ n) (h1 : n ≤ 9223372036854775807) (s : ByteArray) (w : World) (hG : GH w) (hB : BTab w) :
    Calls Tryd.prog 8 #[headV o n r, .string s] w fun e w' => e = .returned (.bool true) ∧ Up w w' := by
  have hl := HL.new w 54 o n r hr
  have hrg0 : (w.alloc (.cells (headC o n r).toArray 54)).rangeAt w.heap.size 0 (headC o n r) := fun j v hv => by rw [World.cell?_alloc_at _ _ _ _ rfl, List.getElem?_toArray, Nat.zero_add]; exact hv
  have HU := Hid.of ((Up.refl w).alloc (.cells (headC o n r).toArray 54))
  have HLR := Hid.of (And.intro hl hrg0)
  clear hl hrg0
  unfold headV
  have hcl := headC_len (o := o) (n := n) hr
  generalize hcs : headC o n r = cs at *
  have HCS := Hid.of hcs
  clear hcs
  go_enter Tryd.func8, Tryd.ntmps8
  go_wp2_with (with_reducible show wpList _ _ _ ({ dst := _, op := Op.load 54 _, type := _, pos := _, after := _, guard := _ } :: _) _ _; refine Shut.out ?_)
  show wpList _ _ _ _ _ _
  generalize w.alloc (Obj.cells cs.toArray 54) = W1 at *
  refine wpList_load_mid rfl _ _ rfl w.heap.size 0 rfl cs _ HLR.out.2 Tryd.underlying54 rfl (by rw [hcl]; exact infoH) ?_
  simp only [Act.put, List.setIfInBounds_toArray, List.set_cons_zero, List.set_cons_succ]
  go_wp2_with fail
  rw [show Value.agg cs.toArray = headV o n r by unfold headV; rw [HCS.out]]
  refine (FormatHead_walk o n r hr h0 h1 W1 (hG.up HU.out)).mono ?_
  rintro e W2 ⟨rfl, u2⟩
  dsimp only
  have HU2 := Hid.of (HU.out.trans u2)
  have HLR2 := Hid.of (And.intro (HLR.out.1.up u2) (range_up HLR.out.2 u2))
  clear u2 HU HLR
  have c0 := HLR2.out.1.c0
  have c1 := HLR2.out.1.c1
  have hrr : W2.rangeAt w.heap.size 2 (cb r) := fun j v hv => by
    have := HLR2.out.2 (2 + j) v (by rw [← HCS.out, headC, Nat.add_comm, List.getElem?_cons_succ, List.getElem?_cons_succ]; exact hv)
    rwa [Nat.zero_add] at this
  go_wp2_with (with_reducible show wpList _ _ _ ({ dst := _, op := Op.load 52 _, type := _, pos := _, after := _, guard := _ } :: _) _ _; refine Shut.out ?_)
  show wpList _ _ _ _ _ _
  refine wpList_load_mid rfl _ _ rfl w.heap.size 2 rfl (cb r) _ hrr Tryd.underlying52 rfl (by rw [cb_length, hr]; kernel_rfl) ?_
  simp only [Act.put, List.setIfInBounds_toArray, List.set_cons_zero, List.set_cons_succ]
  have hcb : (cb r).length = 32 := by rw [cb_length]; exact hr
  go_wp2_with fail
  rw [fold_head _ o n r hr rfl rfl]
  rw [show Value.agg (headC o n r).toArray = headV o n r from rfl]
  refine (RFormatHead_walk o n r hr h0 h1 W2 (hB.up HU2.out)).mono ?_
  rintro e W3 ⟨rfl, u3⟩
  dsimp only
  have HU3 := Hid.of (HU2.out.trans u3)
  clear u3 HU2 HLR2 c0 c1 hrr
  generalize fmtH o n r = ff at *
  obtain ⟨f1, f2⟩ := ff
  have e1 : (f1 == f1) = true := by simp
  have e2 : (f2 == f2) = true := by simp
  go_wp2_with (go_at_call 20; refine (num_walk _ _).mono ?_; rintro e w9 ⟨rfl, hw9⟩; obtain rfl := hw9.symm)
  refine (ParseHead_walk s W3 (hG.up HU3.out)).mono ?_
  rintro e W4 ⟨rfl, u4⟩
  dsimp only
  have HU4 := Hid.of (HU3.out.trans u4)
  clear u4 HU3
  obtain ⟨ho, hn, hrr', hrl, hform⟩ := hdC_form s.data.toList
  rw [hform]
  generalize hde : hdE (rdH s.data.toList) = de at *
  have HDE := Hid.of (And.intro hform hde)
  clear hform hde
  go_wp2_with (with_reducible show wpList _ _ _ ({ dst := _, op := Op.store 54 (.tmp 9) _, type := _, pos := _, after := _, guard := _ } :: _) _ _; refine Shut.out ?_)
  show wpList _ _ _ _ _ _
  change wpList _ _ _ _ _ (W4.alloc (Obj.cells zeroC.toArray 54))
  have t5 := there_new W4 zeroC 54
  have u5 := (Up.refl W4).alloc (Obj.cells zeroC.toArray 54)
  generalize W4.alloc (Obj.cells zeroC.toArray 54) = V5 at *
  refine wpList_store_mid rfl _ _ _ rfl W4.heap.size 0 (headC ho hn hrr').toArray rfl rfl (by rw [show (headC ho hn hrr').toArray.size = 34 from headC_len hrl]; exact t5) (by rw [show (headC ho hn hrr').toArray.size = 34 from headC_len hrl]; exact infoH) (all_oneCell_toArray (headC_one _ _ _)) ?_
  simp only [Act.put]
  have HR5 := Hid.of (show (World.setCells V5 W4.heap.size 0 (headC ho hn hrr').toArray.toList).rangeAt W4.heap.size 0 (headC ho hn hrr') from World.rangeAt_setCells_same _ _ _ _ (by rw [show (headC ho hn hrr').toArray.toList.length = 34 from headC_len hrl]; exact t5))
  have HV5 := Hid.of (show Up W4 (World.setCells V5 W4.heap.size 0 (headC ho hn hrr').toArray.toList) from up_setCells (Nat.le_refl _) _ 0 u5)
  generalize World.setCells V5 W4.heap.size 0 (headC ho hn hrr').toArray.toList = X5 at *
  clear t5 u5
  have HU5 := Hid.of (HU4.out.trans HV5.out)
  generalize W4.heap.size = b9 at *
  go_wp2_with fail
  refine (RParseHead_walk s X5 (hB.up HU5.out)).mono ?_
  rintro e W6 ⟨rfl, u6⟩
  rw [HDE.out.1, HDE.out.2]
  dsimp only
  have HU6 := Hid.of (HU5.out.trans u6)
  have HR6 := Hid.of (range_up HR5.out u6)
  clear u6 HU5 HR5 HU4 HV5
  go_wp2_with (with_reducible show wpList _ _ _ ({ dst := _, op := Op.store 77 (.tmp 10) _, type := _, pos := _, after := _, guard := _ } :: _) _ _; refine Shut.out ?_)
  show wpList _ _ _ _ _ _
  change wpList _ _ _ _ _ (W6.alloc (Obj.cells zeroC.toArray 77))
  have t7 := there_new W6 zeroC 77
  have u7 := (Up.refl W6).alloc (Obj.cells zeroC.toArray 77)
  generalize W6.alloc (Obj.cells zeroC.toArray 77) = V7 at *
  refine wpList_store_mid rfl _ _ _ rfl W6.heap.size 0 (headC ho hn hrr').toArray rfl rfl (by rw [show (headC ho hn hrr').toArray.size = 34 from headC_len hrl]; exact t7) (by rw [show (headC ho hn hrr').toArray.size = 34 from headC_len hrl]; exact infoRH) (all_oneCell_toArray (headC_one _ _ _)) ?_
  simp only [Act.put]
  have HR7 := Hid.of (show (World.setCells V7 W6.heap.size 0 (headC ho hn hrr').toArray.toList).rangeAt W6.heap.size 0 (headC ho hn hrr') from World.rangeAt_setCells_same _ _ _ _ (by rw [show (headC ho hn hrr').toArray.toList.length = 34 from headC_len hrl]; exact t7))
  have HV7 := Hid.of (show Up W6 (World.setCells V7 W6.heap.size 0 (headC ho hn hrr').toArray.toList) from up_setCells (Nat.le_refl _) _ 0 u7)
  generalize World.setCells V7 W6.heap.size 0 (headC ho hn hrr').toArray.toList = X7 at *
  clear t7 u7
  have HU7 := Hid.of (HU6.out.trans HV7.out)
  have HR8 := Hid.of (range_up HR6.out HV7.out)
  generalize W6.heap.size = b10 at *
  have a0 := HR8.out 0 (.string ho) rfl
  have a1 := HR8.out 1 (.int .i64 hn) rfl
  have d0 := HR7.out 0 (.string ho) rfl
  have d1 := HR7.out 1 (.int .i64 hn) rfl
  simp only [Nat.zero_add] at a0 a1 d0 d1
  have ar : X7.rangeAt b9 2 (cb hrr') := fun j v hv => by
    have := HR8.out (2 + j) v (by rw [headC, Nat.add_comm, List.getElem?_cons_succ, List.getElem?_cons_succ]; exact hv)
    rwa [Nat.zero_add] at this
  have dr : X7.rangeAt b10 2 (cb hrr') := fun j v hv => by
    have := HR7.out (2 + j) v (by rw [headC, Nat.add_comm, List.getElem?_cons_succ, List.getElem?_cons_succ]; exact hv)
    rwa [Nat.zero_add] at this
  have HAD := Hid.of (And.intro ar dr)
  clear ar dr HR6 HV7 HU6
  have q1 : (ho.toList == ho.toList) = true := by simp
  have q2 : (hn == hn) = true := by simp
  have q3 : (de == de) = true := by simp
  go_wp2_with (with_reducible show wpList _ _ _ ({ dst := _, op := Op.load 52 _, type := _, pos := _, after := _, guard := _ } :: _) _ _; refine Shut.out ?_)
  show wpList _ _ _ _ _ _
  refine wpList_load_want (by kernel_rfl) _ _ rfl b9 2 rfl (cb hrr') _ HAD.out.1 Tryd.underlying52 rfl (by rw [cb_length, hrl]; kernel_rfl) ?_
  simp only [Act.put, List.setIfInBounds_toArray, List.set_cons_zero, List.set_cons_succ]
  go_wp2_with (with_reducible show wpList _ _ _ ({ dst := _, op := Op.load 51 _, type := _, pos := _, after := _, guard := _ } :: _) _ _; refine Shut.out ?_)
  show wpList _ _ _ _ _ _
  refine wpList_load_want (by kernel_rfl) _ _ rfl b10 2 rfl (cb hrr') _ HAD.out.2 Tryd.underlying51 rfl (by rw [cb_length, hrl]; kernel_rfl) ?_
  simp only [Act.put, List.setIfInBounds_toArray, List.set_cons_zero, List.set_cons_succ]
  refine wpList_yield_want (by kernel_rfl) (v := .bool true) (exec_eqlR rfl hrr' rfl rfl hrl _) ?_
  simp only [Act.put, List.setIfInBounds_toArray, List.set_cons_zero, List.set_cons_succ]
  go_wp2_with (go_at_call 20; refine (num_walk _ _).mono ?_; rintro e w9 ⟨rfl, hw9⟩; obtain rfl := hw9.symm)
  go_ret
  exact ⟨rfl, HU7.out⟩
end Go.Proofs.YtbdbpmeaiiodgaaDoor
