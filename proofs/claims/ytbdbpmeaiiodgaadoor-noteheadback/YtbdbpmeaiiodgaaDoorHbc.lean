import Derived.Test.YtbdbpmeaiiodgaaDoorHb
namespace Go.Proofs.YtbdbpmeaiiodgaaDoor
open Go.RowKit Go.Shelf TextNum
set_option maxRecDepth 100000 in
set_option maxHeartbeats 4000000 in
theorem headBack_c (o : ByteArray) (n : Int) (r : List UInt8) (hr : r.length = 32) (h0 : -9223372036854775808 ≤ n) (h1 : n ≤ 9223372036854775807) (s : ByteArray) (w : World) (hG : GH w) (hn : nameR o = 0) (hneg : ¬ n < 0) (hbig : 281474976710656 < n) :
    Calls Tryd.prog 6 #[headV o n r, .string s] w fun e w' => e = .returned (.bool true) ∧ Up w w' := by
  have hl := HL.new w 54 o n r hr
  have hrg0 : (w.alloc (.cells (headC o n r).toArray 54)).rangeAt w.heap.size 0 (headC o n r) := fun j v hv => by rw [World.cell?_alloc_at _ _ _ _ rfl, List.getElem?_toArray, Nat.zero_add]; exact hv
  have HU := Hid.of ((Up.refl w).alloc (.cells (headC o n r).toArray 54))
  have HLR := Hid.of (And.intro hl hrg0)
  clear hl hrg0
  unfold headV
  have hcl := headC_len (o := o) (n := n) hr
  generalize hcs : headC o n r = cs at *
  have HCS := Hid.of hcs
  clear hcs
  go_enter Tryd.func6, Tryd.ntmps6
  go_wp2_with fail
  generalize w.alloc (Obj.cells cs.toArray 54) = W1 at *
  refine (FormatHead_walk ⟨#[108, 111, 103]⟩ 7 (List.replicate 32 0) rfl (by decide) (by decide) W1 (hG.up HU.out)).mono ?_
  rintro e W2 ⟨rfl, u2⟩
  rw [log_fmt]
  generalize Value.agg #[Value.string { data := #[108, 111, 103] }, Value.int IntKind.i64 7, Value.int IntKind.u8 0, Value.int IntKind.u8 0, Value.int IntKind.u8 0, Value.int IntKind.u8 0, Value.int IntKind.u8 0, Value.int IntKind.u8 0, Value.int IntKind.u8 0, Value.int IntKind.u8 0, Value.int IntKind.u8 0, Value.int IntKind.u8 0, Value.int IntKind.u8 0, Value.int IntKind.u8 0, Value.int IntKind.u8 0, Value.int IntKind.u8 0, Value.int IntKind.u8 0, Value.int IntKind.u8 0, Value.int IntKind.u8 0, Value.int IntKind.u8 0, Value.int IntKind.u8 0, Value.int IntKind.u8 0, Value.int IntKind.u8 0, Value.int IntKind.u8 0, Value.int IntKind.u8 0, Value.int IntKind.u8 0, Value.int IntKind.u8 0, Value.int IntKind.u8 0, Value.int IntKind.u8 0, Value.int IntKind.u8 0, Value.int IntKind.u8 0, Value.int IntKind.u8 0, Value.int IntKind.u8 0, Value.int IntKind.u8 0] = zl
  have HU2 := Hid.of (HU.out.trans u2)
  have HLR2 := Hid.of (And.intro (HLR.out.1.up u2) (range_up HLR.out.2 u2))
  clear u2 HU HLR
  dsimp only
  go_wp2_with (first | (go_at_call 20; refine (num_walk _ _).mono ?_; rintro e w9 ⟨rfl, hw9⟩; obtain rfl := hw9.symm) | (with_reducible show wpList _ _ _ ({ dst := _, op := Op.load 54 _, type := _, pos := _, after := _, guard := _ } :: _) _ _; refine Shut.out ?_))
  show wpList _ _ _ _ _ _
  refine wpList_load_mid rfl _ _ rfl w.heap.size 0 rfl cs _ HLR2.out.2 Tryd.underlying54 rfl (by rw [hcl]; exact infoH) ?_
  simp only [Act.put, List.setIfInBounds_toArray, List.set_cons_zero, List.set_cons_succ]
  go_wp2_with fail
  rw [show Value.agg cs.toArray = headV o n r by unfold headV; rw [HCS.out]]
  refine (FormatHead_walk o n r hr h0 h1 W2 (hG.up HU2.out)).mono ?_
  rintro e W3 ⟨rfl, u3⟩
  dsimp only
  have HU3 := Hid.of (HU2.out.trans u3)
  have HLR3 := Hid.of (And.intro (HLR2.out.1.up u3) (range_up HLR2.out.2 u3))
  clear u3 HU2 HLR2
  have c0 := HLR3.out.1.c0
  have c1 := HLR3.out.1.c1
  go_wp2_with fail
  refine (CheckName_walk o W3 (hG.up HU3.out).s).mono ?_
  rintro e W4 ⟨rfl, u4⟩
  dsimp only
  have HU4 := Hid.of (HU3.out.trans u4)
  have HLR4 := Hid.of (And.intro (HLR3.out.1.up u4) (range_up HLR3.out.2 u4))
  clear c0 c1
  have c0 := HLR4.out.1.c0
  have c1 := HLR4.out.1.c1
  clear u4 HU3 HLR3
  have HF := Hid.of (show fmtH o n r = ([], 1) by unfold fmtH; rw [if_neg (by simp [hn]), if_pos (.inr hbig)])
  rw [HF.out, hn]
  go_wp2_with (go_at_call 20; refine (num_walk _ _).mono ?_; rintro e w9 ⟨rfl, hw9⟩; obtain rfl := hw9.symm)
  refine (ParseHead_walk s W4 (hG.up HU4.out)).mono ?_
  rintro e W6 ⟨rfl, u6⟩
  dsimp only
  have HU6 := Hid.of (HU4.out.trans u6)
  clear u6
  have hlen := hdC_len s.data.toList
  have hone := hdC_one (rdH s.data.toList)
  go_wp2_with (with_reducible show wpList _ _ _ ({ dst := _, op := Op.store 54 (.tmp 11) _, type := _, pos := _, after := _, guard := _ } :: _) _ _; refine Shut.out ?_)
  show wpList _ _ _ _ _ _
  change wpList _ _ _ _ _ (W6.alloc (Obj.cells zeroC.toArray 54))
  have t7 := there_new W6 zeroC 54
  have u7 := (Up.refl W6).alloc (Obj.cells zeroC.toArray 54)
  generalize W6.alloc (Obj.cells zeroC.toArray 54) = W7 at *
  refine wpList_store_mid rfl _ _ _ rfl W6.heap.size 0 (hdC (rdH s.data.toList)).toArray rfl rfl (by rw [show (hdC (rdH s.data.toList)).toArray.size = 34 from hlen]; exact t7) (by rw [show (hdC (rdH s.data.toList)).toArray.size = 34 from hlen]; exact infoH) (all_oneCell_toArray hone) ?_
  simp only [Act.put]
  have r8 : (World.setCells W7 W6.heap.size 0 (hdC (rdH s.data.toList)).toArray.toList).rangeAt W6.heap.size 0 (hdC (rdH s.data.toList)) := World.rangeAt_setCells_same _ _ _ _ (by rw [show (hdC (rdH s.data.toList)).toArray.toList.length = 34 from hlen]; exact t7)
  have HU8 := Hid.of (up_setCells (W := w) HU6.out.size (hdC (rdH s.data.toList)).toArray.toList 0 (HU6.out.trans u7))
  generalize World.setCells W7 W6.heap.size 0 (hdC (rdH s.data.toList)).toArray.toList = W8 at *
  have HR8 := Hid.of r8
  clear t7 u7 r8 HU6
  cases hrd : rdH s.data.toList with
  | none =>
    rw [hrd] at HR8 hlen
    rw [show hdE none = 77 from rfl]
    go_wp2_with (first | (go_at_call 20; refine (num_walk _ _).mono ?_; rintro e w9 ⟨rfl, hw9⟩; obtain rfl := hw9.symm) | (with_reducible show wpList _ _ _ ({ dst := _, op := Op.load 54 _, type := _, pos := _, after := _, guard := _ } :: _) _ _; refine Shut.out ?_))
    show wpList _ _ _ _ _ _
    refine wpList_load_mid rfl _ _ rfl W6.heap.size 0 rfl zeroC _ HR8.out Tryd.underlying54 rfl infoH ?_
    simp only [Act.put, List.setIfInBounds_toArray, List.set_cons_zero, List.set_cons_succ]
    go_wp2_with (with_reducible show wpList _ _ _ ({ dst := _, op := Op.binOp BinOp.eql 54 _ _ _, type := _, pos := _, after := _, guard := _ } :: _) _ _; refine Shut.out ?_)
    show wpList _ _ _ _ _ _
    refine wpList_yield rfl (v := .bool true) (exec_eqlH rfl ⟨#[]⟩ 0 (List.replicate 32 0) rfl rfl rfl _) ?_
    simp only [Act.put, List.setIfInBounds_toArray, List.set_cons_zero, List.set_cons_succ]
    go_wp2_with (go_at_call 20; refine (num_walk _ _).mono ?_; rintro e w9 ⟨rfl, hw9⟩; obtain rfl := hw9.symm)
    go_ret
    exact ⟨rfl, HU8.out⟩
  | some x =>
    obtain ⟨xa, xn, xr⟩ := x
    obtain ⟨f1, f2, f3, f4⟩ := head_once hrd
    rw [hrd] at HR8 hlen
    rw [show hdE (some (xa, xn, xr)) = 0 from rfl]
    go_wp2_with (first | (go_at_call 20; refine (num_walk _ _).mono ?_; rintro e w9 ⟨rfl, hw9⟩; obtain rfl := hw9.symm) | (with_reducible show wpList _ _ _ ({ dst := _, op := Op.load 54 _, type := _, pos := _, after := _, guard := _ } :: _) _ _; refine Shut.out ?_))
    show wpList _ _ _ _ _ _
    refine wpList_load_mid rfl _ _ rfl W6.heap.size 0 rfl (headC ⟨xa.toArray⟩ xn xr) _ HR8.out Tryd.underlying54 rfl (by rw [headC_len f2]; exact infoH) ?_
    simp only [Act.put, List.setIfInBounds_toArray, List.set_cons_zero, List.set_cons_succ]
    go_wp2_with fail
    refine (FormatHead_walk ⟨xa.toArray⟩ xn xr f2 (by omega) (by omega) W8 (hG.up HU8.out)).mono ?_
    rintro e W9 ⟨rfl, u9⟩
    rw [f1]
    have HU9 := Hid.of (HU8.out.trans u9)
    clear u9
    dsimp only
    rw [show vs s.data.toList = Value.string s from rfl]
    go_wp2_with (go_at_call 20; refine (num_walk _ _).mono ?_; rintro e w9 ⟨rfl, hw9⟩; obtain rfl := hw9.symm)
    go_ret
    exact ⟨rfl, HU9.out⟩
end Go.Proofs.YtbdbpmeaiiodgaaDoor
