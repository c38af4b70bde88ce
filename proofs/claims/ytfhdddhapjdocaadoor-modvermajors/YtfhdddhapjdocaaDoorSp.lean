import Derived.Test.YtfhdddhapjdocaaDoorRe
import Derived.Test.YtfhdddhapjdocaaDoorEc
import Derived.Stop.BytesEq
import Derived.Laws.StructEq
namespace Go.Proofs.YtfhdddhapjdocaaDoor
open Go.RowKit Go.Shelf TextNum ModNum
theorem wpList_load_want {P : Program} {ops : Array Oper} {rest : List Oper} {op : Oper} {a : Act} {w : World} {Q : Exit → Act → World → Prop} (hw : Region.wanted op (yielded ops a.tmps) = true) (ty : TypeId) (x : Operand) (ho : op.op = .load ty x)
    (b o : Nat) (hx : a.eval x = .pointer (some ⟨b, o, none⟩)) (cs : List Value) (d : TypeDesc) (hc : w.rangeAt b o cs)
    (hu : P.underlying ty = some d) (hd : d.isRow = true) (hi : (P.info? ty).map (·.size) = some cs.length)
    (h : wpList P ops Q rest (a.put op.dst (.agg cs.toArray)) w) : wpList P ops Q (op :: rest) a w :=
  Go.BigFrame.wpList_want hw fun _ hK => wp_load_mid ty x ho b o hx cs d hc hu hd hi (hK _ _ h)
theorem wpList_yield_want {P : Program} {ops : Array Oper} {rest : List Oper} {o : Oper} {a : Act} {w : World} {Q : Exit → Act → World → Prop} {v : Value} (hw : Region.wanted o (yielded ops a.tmps) = true)
    (hr : (execOp a.eval o).run P w = .ok (.value v) w) (h : wpList P ops Q rest (a.put o.dst v) w) : wpList P ops Q (o :: rest) a w :=
  Go.BigFrame.wpList_want hw fun _ hK => by
    unfold Oper.wp
    rw [hr]
    exact hK _ _ h
theorem equal32 (d : Nat) (r q : List UInt8) (hr : r.length = 32) (hq : q.length = 32) (w : World) : (Op.equalIn (d + 2) 43 (.agg (cb r).toArray) (.agg (cb q).toArray)).run Tryd.prog w = .ok (r == q) w :=
  run_equalIn_bytes w d 43 5 32 Tryd.underlying43 Tryd.underlying5 (fun w => Tryd.sizeOf5 w) r q hr hq
theorem exec_eql32 {op : Oper} {ρ : Operand → Value} {x y : Operand} {t : TypeId} (ho : op.op = .binOp .eql 43 x y t) (r q : List UInt8) (hx : ρ x = .agg (cb r).toArray) (hy : ρ y = .agg (cb q).toArray) (hr : r.length = 32) (hl : q.length = 32) (w : World) : (execOp ρ op).run Tryd.prog w = .ok (.value (.bool (r == q))) w := by
  have hq := equal32 9998 r q hr hl w
  unfold execOp
  simp only [ho, hx, hy, Sem.run_bind, run_eqGuard_agg (P := Tryd.prog) (w := w) .eql 43 x y _ _ Tryd.eqGuardType43, run_eql_struct, hq, Result.andThen_ok, Sem.run_pure]
def smp : List UInt8 := (([97, 46, 99, 111, 109, 47, 66, 32, 118, 49, 46, 48, 46, 48, 45, 82, 32, 104, 49, 58, 65, 65, 65, 65, 65, 65, 65, 65, 65, 65, 65, 65, 65, 65].append [65, 65, 65, 65, 65, 65, 65, 65, 65, 65, 65, 65, 65, 65, 65, 65, 65, 65, 65, 65, 65, 65, 65, 65, 65, 65, 65, 65, 65, 61, 10, 97, 46, 99]).append ([111, 109, 47, 66, 32, 118, 49, 46, 48, 46, 48, 45, 82, 47, 103, 111, 46, 109, 111, 100, 32, 104, 49, 58, 65, 65, 65, 65, 65, 65, 65, 65, 65, 65].append [65, 65, 65, 65, 65, 65, 65, 65, 65, 65, 65, 65, 65, 65, 65, 65, 65, 65, 65, 65, 65, 65, 65, 65, 65, 65, 65, 65, 65, 65, 65, 65, 65, 61, 10]))
theorem smp_p : (prc smp).p = [97, 46, 99, 111, 109, 47, 66] := by decide +kernel
theorem smp_v : (prc smp).v = [118, 49, 46, 48, 46, 48, 45, 82] := by decide +kernel
theorem smp_a : (prc smp).a = Z32 := by decide +kernel
theorem smp_b : (prc smp).b = Z32 := by decide +kernel
theorem smp_e : (prc smp).e = 0 := by decide +kernel
theorem smp_x : epT [97, 46, 99, 111, 109, 47, 66] = [97, 46, 99, 111, 109, 47, 33, 98] := by decide +kernel
theorem smp_m : majE [97, 46, 99, 111, 109, 47, 66] = 0 := by decide +kernel
theorem smpV : prcV (prc smp) = .tuple #[.string ⟨#[97, 46, 99, 111, 109, 47, 66]⟩, .string ⟨#[118, 49, 46, 48, 46, 48, 45, 82]⟩, .agg (cb Z32).toArray, .agg (cb Z32).toArray, .int .i64 0] := by
  unfold prcV
  rw [smp_p, smp_v, smp_a, smp_b, smp_e]
set_option maxRecDepth 100000 in
set_option maxHeartbeats 2000000 in
theorem sample_walk (w : World) (hG : GR w) (hT : TabL w) : Calls Tryd.prog 16 #[] w fun e w' => e = .returned (.bool true) ∧ Up w w' := by
  have HP : Hid (Calls Tryd.prog 28 #[.string ⟨smp.toArray⟩] w fun e w' => e = .returned (.tuple #[.string ⟨#[97, 46, 99, 111, 109, 47, 66]⟩, .string ⟨#[118, 49, 46, 48, 46, 48, 45, 82]⟩, .agg (cb Z32).toArray, .agg (cb Z32).toArray, .int .i64 0]) ∧ Up w w') := by
    have := ParseRecord_walk ⟨smp.toArray⟩ w hG hT
    rw [ba_data', smpV] at this
    exact this
  have HE := fun w' => fun (u : Up w w') => Hid.of (EscapePath_walk ⟨#[97, 46, 99, 111, 109, 47, 66]⟩ w' (hG.up u))
  rw [show (⟨#[97, 46, 99, 111, 109, 47, 66]⟩ : ByteArray).data.toList = [97, 46, 99, 111, 109, 47, 66] from rfl, smp_x, smp_m] at HE
  clear hG hT
  go_enter Tryd.func16, Tryd.ntmps16
  go_wp2_with fail
  refine HP.out.mono ?_
  rintro e w1 ⟨rfl, u1⟩
  have H1 := Hid.of u1
  clear u1 HP
  dsimp only
  have HB2 : Hid (At ((w1.alloc (.cells (cb Z32).toArray 43)).alloc (.cells (cb Z32).toArray 43)) (w1.heap.size + 1) 43 (cb Z32)) := by
    have := at_new (w1.alloc (.cells (cb Z32).toArray 43)) 43 (cb Z32)
    rw [alloc_size] at this
    exact this
  have HB1 : Hid (At ((w1.alloc (.cells (cb Z32).toArray 43)).alloc (.cells (cb Z32).toArray 43)) w1.heap.size 43 (cb Z32)) := At.up (at_new w1 43 (cb Z32)) ((Up.refl _).alloc _)
  have HU := Hid.of ((H1.out.alloc (.cells (cb Z32).toArray 43)).alloc (.cells (cb Z32).toArray 43))
  have HLt := Hid.of H1.out.size
  go_wp2_with (with_reducible show wpList _ _ _ ({ dst := _, op := Op.store 43 _ _, type := _, pos := _, after := _, guard := _ } :: _) _ _; refine Shut.out ?_)
  show wpList _ _ _ _ _ _
  rw [zlit]
  generalize (w1.alloc (.cells (cb Z32).toArray 43)).alloc (.cells (cb Z32).toArray 43) = W0 at *
  refine wpList_store_at rfl _ _ _ rfl w1.heap.size HB1.out (cb Z32) rfl rfl rfl (by kernel_rfl) (cb_all _) fun x1 hx1 hg1 => ?_
  have HX1 := Hid.of hx1
  have HX2 := Hid.of (HB2.out.by hg1 (by intro h; injection h with h; omega))
  have HXU := Hid.of (HU.out.by hg1 (fun g hg => by have := HLt.out; injection hg with hg; omega))
  clear hx1 hg1 HB1 HB2 HU
  simp only [Act.put]
  go_wp2_with (with_reducible show wpList _ _ _ ({ dst := _, op := Op.store 43 _ _, type := _, pos := _, after := _, guard := _ } :: _) _ _; refine Shut.out ?_)
  show wpList _ _ _ _ _ _
  refine wpList_store_at rfl _ _ _ rfl (w1.heap.size + 1) HX2.out (cb Z32) rfl rfl rfl (by kernel_rfl) (cb_all _) fun x2 hx2 hg2 => ?_
  have HY2 := Hid.of hx2
  have HY1 := Hid.of (HX1.out.by hg2 (by intro h; injection h with h; omega))
  have HYU := Hid.of (HXU.out.by hg2 (fun g hg => by have := HLt.out; injection hg with hg; omega))
  clear hx2 hg2 HX1 HX2 HXU
  simp only [Act.put]
  go_wp2_with fail
  refine (HE _ HYU.out).out.mono ?_
  rintro e w3 ⟨rfl, u3⟩
  have HZ1 := Hid.of ((HY1.out.up u3).up ((Up.refl w3).alloc (.cells (cb Z32).toArray 43)))
  have HZ2 := Hid.of ((HY2.out.up u3).up ((Up.refl w3).alloc (.cells (cb Z32).toArray 43)))
  have HZ3 := Hid.of (at_new w3 43 (cb Z32))
  have HZU := Hid.of ((HYU.out.trans u3).alloc (.cells (cb Z32).toArray 43))
  clear u3 HY1 HY2 HYU HE H1
  dsimp only
  go_wp2_with (with_reducible show wpList _ _ _ ({ dst := _, op := Op.load 43 _, type := _, pos := _, after := _, guard := _ } :: _) _ _; refine Shut.out ?_)
  show wpList _ _ _ _ _ _
  rw [zlit]
  generalize w3.alloc (.cells (cb Z32).toArray 43) = W4 at *
  refine wpList_load_want (by kernel_rfl) _ _ rfl w1.heap.size 0 rfl (cb Z32) _ HZ1.out.range Tryd.underlying43 rfl (by kernel_rfl) ?_
  simp only [Act.put, List.setIfInBounds_toArray, List.set_cons_zero, List.set_cons_succ]
  go_wp2_with (with_reducible show wpList _ _ _ ({ dst := _, op := Op.load 43 _, type := _, pos := _, after := _, guard := _ } :: _) _ _; refine Shut.out ?_)
  show wpList _ _ _ _ _ _
  refine wpList_load_want (by kernel_rfl) _ _ rfl w3.heap.size 0 rfl (cb Z32) _ HZ3.out.range Tryd.underlying43 rfl (by kernel_rfl) ?_
  simp only [Act.put, List.setIfInBounds_toArray, List.set_cons_zero, List.set_cons_succ]
  refine wpList_yield_want (by kernel_rfl) (v := .bool true) (exec_eql32 rfl Z32 Z32 rfl rfl rfl rfl _) ?_
  simp only [Act.put, List.setIfInBounds_toArray, List.set_cons_zero, List.set_cons_succ]
  go_wp2_with (with_reducible show wpList _ _ _ ({ dst := _, op := Op.load 43 _, type := _, pos := _, after := _, guard := _ } :: _) _ _; refine Shut.out ?_)
  show wpList _ _ _ _ _ _
  refine wpList_load_want (by kernel_rfl) _ _ rfl (w1.heap.size + 1) 0 rfl (cb Z32) _ HZ2.out.range Tryd.underlying43 rfl (by kernel_rfl) ?_
  simp only [Act.put, List.setIfInBounds_toArray, List.set_cons_zero, List.set_cons_succ]
  go_wp2_with (with_reducible show wpList _ _ _ ({ dst := _, op := Op.load 43 _, type := _, pos := _, after := _, guard := _ } :: _) _ _; refine Shut.out ?_)
  show wpList _ _ _ _ _ _
  refine wpList_load_want (by kernel_rfl) _ _ rfl w3.heap.size 0 rfl (cb Z32) _ HZ3.out.range Tryd.underlying43 rfl (by kernel_rfl) ?_
  simp only [Act.put, List.setIfInBounds_toArray, List.set_cons_zero, List.set_cons_succ]
  refine wpList_yield_want (by kernel_rfl) (v := .bool true) (exec_eql32 rfl Z32 Z32 rfl rfl rfl rfl _) ?_
  simp only [Act.put, List.setIfInBounds_toArray, List.set_cons_zero, List.set_cons_succ]
  go_wp2
  go_ret
  exact ⟨rfl, HZU.out⟩
end Go.Proofs.YtfhdddhapjdocaaDoor
