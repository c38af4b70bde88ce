import Derived.Test.YtnciglpdjpckiaaGreatDoorKD
import Derived.Test.YtnciglpdjpckiaaGreatDoorK8
import Derived.Laws.Tables
import Derived.Test.YtnciglpdjpckiaaGreatDoorKB
import Derived.Lib.LaidU8
import Derived.LaidMore
import Derived.ProofKit
import Derived.ShapedOpen
import Derived.Shelf.Vars
import Derived.Test.YtnciglpdjpckiaaGreatDoorTa
import Derived.Lib.LaidTab
namespace Go.Proofs.YtnciglpdjpckiaaGreatDoor
open Go.RowKit Go.Shelf TextNum ModNum
theorem known_fte : fte [97, 46, 99, 111, 109, 47, 98] [118, 49, 46, 50, 46, 51] = 0 := by decide +kernel
theorem known_key : keyT [97, 46, 99, 111, 109, 47, 98] [118, 49, 46, 50, 46, 51] = [97, 46, 99, 111, 109, 47, 98, 64, 118, 49, 46, 50, 46, 51] := by decide +kernel
theorem known_cmp : cmpV [118, 49, 46, 50, 46, 51] [118, 49, 46, 49, 48, 46, 48] = -1 := by decide +kernel
set_option maxRecDepth 100000 in
theorem known_walk (w : World) (hG : GR w) : Calls Tryz.prog 9 #[] w fun e w' => e = .returned (.bool true) ∧ Up w w' := by
  have HK := Hid.of (Key_walk ⟨#[97, 46, 99, 111, 109, 47, 98]⟩ ⟨#[118, 49, 46, 50, 46, 51]⟩ w hG)
  have HC := fun w' => fun (u : Up w w') => Hid.of (Compare_walk ⟨#[118, 49, 46, 50, 46, 51]⟩ ⟨#[118, 49, 46, 49, 48, 46, 48]⟩ w' (hG.up u).toGM)
  rw [show (⟨#[97, 46, 99, 111, 109, 47, 98]⟩ : ByteArray).data.toList = [97, 46, 99, 111, 109, 47, 98] from rfl, show (⟨#[118, 49, 46, 50, 46, 51]⟩ : ByteArray).data.toList = [118, 49, 46, 50, 46, 51] from rfl, known_fte, known_key] at HK
  rw [show (⟨#[118, 49, 46, 50, 46, 51]⟩ : ByteArray).data.toList = [118, 49, 46, 50, 46, 51] from rfl, show (⟨#[118, 49, 46, 49, 48, 46, 48]⟩ : ByteArray).data.toList = [118, 49, 46, 49, 48, 46, 48] from rfl, known_cmp] at HC
  clear hG
  go_enter Tryz.func9, Tryz.ntmps9
  go_wp2_with fail
  refine (HK.out).mono ?_
  rintro e w1 ⟨rfl, u1⟩
  have H1 := Hid.of (u1)
  have Hu1 := Hid.of u1
  clear u1
  dsimp only
  go_wp2_with fail
  refine ((HC _ H1.out).out).mono ?_
  rintro e w2 ⟨rfl, u2⟩
  have H2 := Hid.of (H1.out.trans u2)
  have Hu2 := Hid.of u2
  clear u2
  dsimp only
  go_wp2
  go_ret
  exact ⟨rfl, H2.out⟩
/-- an Op in its cells -/
def opc (k : Int) (s u : ByteArray) (a b : List UInt8) (l : Value) : List Value := .int .i64 k :: .string s :: .string u :: (cb a ++ (cb b ++ [l]))
structure OpA (w : World) (g : Nat) (k : Int) (s u : ByteArray) (a b : List UInt8) (l : Value) : Prop where
  c0 : w.cell? ⟨g, 0, none⟩ = some (.int .i64 k)
  c1 : w.cell? ⟨g, 1, none⟩ = some (.string s)
  c2 : w.cell? ⟨g, 2, none⟩ = some (.string u)
  ra : w.rangeAt g 3 (cb a)
  rb : w.rangeAt g 35 (cb b)
  cl : w.cell? ⟨g, 67, none⟩ = some l
theorem OpA.up {w w' : World} {g : Nat} {k : Int} {s u : ByteArray} {a b : List UInt8} {l : Value} (h : OpA w g k s u a b l) (q : Up w w') : OpA w' g k s u a b l :=
  ⟨q.cell h.c0, q.cell h.c1, q.cell h.c2, rng_up h.ra q, rng_up h.rb q, q.cell h.cl⟩
theorem opA_new (w : World) (k : Int) (s u : ByteArray) (a b : List UInt8) (l : Value) (ha : a.length = 32) (hb : b.length = 32) : OpA (w.alloc (.cells (opc k s u a b l).toArray 36)) w.heap.size k s u a b l := by
  have h := at_new w 36 (opc k s u a b l)
  have la : (cb a).length = 32 := by rw [cb_length, ha]
  have lb : (cb b).length = 32 := by rw [cb_length, hb]
  have hj3 : ∀ j v, (cb a)[j]? = some v → (opc k s u a b l)[3 + j]? = some v := fun j v hv => by
    have hj : j < (cb a).length := (List.getElem?_eq_some_iff.1 hv).1
    unfold opc
    rw [show 3 + j = j + 1 + 1 + 1 by omega, List.getElem?_cons_succ, List.getElem?_cons_succ, List.getElem?_cons_succ, List.getElem?_append_left hj]
    exact hv
  have hj35 : ∀ j v, (cb b)[j]? = some v → (opc k s u a b l)[35 + j]? = some v := fun j v hv => by
    have hj : j < (cb b).length := (List.getElem?_eq_some_iff.1 hv).1
    unfold opc
    rw [show 35 + j = (32 + j) + 1 + 1 + 1 by omega, List.getElem?_cons_succ, List.getElem?_cons_succ, List.getElem?_cons_succ, List.getElem?_append_right (by omega), la, show 32 + j - 32 = j by omega, List.getElem?_append_left hj]
    exact hv
  refine ⟨h.cell (i := 0) rfl, h.cell (i := 1) rfl, h.cell (i := 2) rfl, fun j v hv => h.cell (hj3 j v hv), fun j v hv => h.cell (hj35 j v hv), h.cell ?_⟩
  unfold opc
  rw [show 67 = 64 + 1 + 1 + 1 from rfl, List.getElem?_cons_succ, List.getElem?_cons_succ, List.getElem?_cons_succ, List.getElem?_append_right (by omega), la, List.getElem?_append_right (by omega), lb]
  rfl
theorem tl_eq (q : ByteArray) : (q.toList == q.toList) = true := beq_self_eq_true _
set_option maxRecDepth 100000 in
set_option maxHeartbeats 1000000 in
theorem rec_k7 (s u : ByteArray) (a b : List UInt8) (l : Value) (ha : a.length = 32) (hb : b.length = 32) (w : World) (hG : GR w) (hT : TK w) : Calls Tryz.prog 13 #[.agg (opc 7 s u a b l).toArray] w fun e w' => e = .returned (.bool true) ∧ Up w w' := by
  have HO := Hid.of (opA_new w 7 s u a b l ha hb)
  have HU := Hid.of ((Up.refl w).alloc (.cells (opc 7 s u a b l).toArray 36))
  obtain ⟨q, hq1, hq2⟩ := ba_ex (keyT s.data.toList u.data.toList)
  have HR := fun w' => fun (k : Up w w') => Hid.of (RKey_walk s u w' (hT.up k))
  have HP := fun w' => fun (k : Up w w') => Hid.of (Key_walk s u w' (hG.up k))
  rw [hq2] at HR HP
  have hqq := tl_eq q
  generalize fte s.data.toList u.data.toList = f at *
  clear hG hT hq1 hq2
  go_enter Tryz.func13, Tryz.ntmps13
  generalize hW0 : w.alloc (.cells (opc 7 s u a b l).toArray 36) = W0 at *
  have k0 := HO.out.c0
  have k1 := HO.out.c1
  have k2 := HO.out.c2
  generalize hg : w.heap.size = g at *
  go_wp2_with fail
  refine (HR _ HU.out).out.mono ?_
  rintro e w1 ⟨rfl, u1⟩
  have H1 := Hid.of (HU.out.trans u1)
  have j1 := u1.cell k1
  have j2 := u1.cell k2
  clear u1 k0 k1 k2
  dsimp only
  go_wp2_with fail
  refine (HP _ H1.out).out.mono ?_
  rintro e w2 ⟨rfl, u2⟩
  have H2 := Hid.of (H1.out.trans u2)
  clear u2
  dsimp only
  go_wp2
  go_ret
  exact ⟨rfl, H2.out⟩
set_option maxRecDepth 100000 in
set_option maxHeartbeats 1000000 in
theorem rec_k13 (s u : ByteArray) (a b : List UInt8) (l : Value) (ha : a.length = 32) (hb : b.length = 32) (w : World) (hG : GR w) (hL : TabL w) (hT : TK w) : Calls Tryz.prog 13 #[.agg (opc 13 s u a b l).toArray] w fun e w' => e = .returned (.bool true) ∧ Up w w' := by
  have HO := Hid.of (opA_new w 13 s u a b l ha hb)
  have HU := Hid.of ((Up.refl w).alloc (.cells (opc 13 s u a b l).toArray 36))
  obtain ⟨q, hq1, hq2⟩ := ba_ex (recT s.data.toList u.data.toList a b)
  have HR := fun w' => fun (k : Up w w') => Hid.of (RRecord_walk s u a b ha hb w' (hT.up k))
  have HP := fun w' => fun (k : Up w w') => Hid.of (Record_walk s u a b ha hb w' (hG.up k) (hL.below hL.lt k))
  rw [show vs (recT s.data.toList u.data.toList a b) = .string q from congrArg Value.string hq2] at HR HP
  have hqq := tl_eq q
  have ix := i32 ha
  have iy := i32 hb
  generalize fte s.data.toList u.data.toList = f at *
  clear hG hT hL hq1 hq2 ha hb
  go_enter Tryz.func13, Tryz.ntmps13
  generalize hW0 : w.alloc (.cells (opc 13 s u a b l).toArray 36) = W0 at *
  have k0 := HO.out.c0
  have k1 := HO.out.c1
  have k2 := HO.out.c2
  generalize hg : w.heap.size = g at *
  go_wp2_with (with_reducible show wpList _ _ _ ({ dst := _, op := Op.load 32 _, type := _, pos := _, after := _, guard := _ } :: _) _ _; refine Shut.out ?_)
  show wpList _ _ _ _ _ _
  refine wpList_load_mid rfl _ _ rfl g 3 rfl (cb a) _ HO.out.ra Tryz.underlying32 rfl ix ?_
  simp only [Act.put, List.setIfInBounds_toArray, List.set_cons_zero, List.set_cons_succ]
  go_wp2_with (with_reducible show wpList _ _ _ ({ dst := _, op := Op.load 32 _, type := _, pos := _, after := _, guard := _ } :: _) _ _; refine Shut.out ?_)
  show wpList _ _ _ _ _ _
  refine wpList_load_mid rfl _ _ rfl g 35 rfl (cb b) _ HO.out.rb Tryz.underlying32 rfl iy ?_
  simp only [Act.put, List.setIfInBounds_toArray, List.set_cons_zero, List.set_cons_succ]
  go_wp2_with fail
  refine (HR _ HU.out).out.mono ?_
  rintro e w1 ⟨rfl, u1⟩
  have H1 := Hid.of (HU.out.trans u1)
  have HO1 := Hid.of (HO.out.up u1)
  have j1 := u1.cell k1
  have j2 := u1.cell k2
  clear u1 k0 k1 k2
  dsimp only
  go_wp2_with (with_reducible show wpList _ _ _ ({ dst := _, op := Op.load 32 _, type := _, pos := _, after := _, guard := _ } :: _) _ _; refine Shut.out ?_)
  show wpList _ _ _ _ _ _
  refine wpList_load_mid rfl _ _ rfl g 3 rfl (cb a) _ HO1.out.ra Tryz.underlying32 rfl ix ?_
  simp only [Act.put, List.setIfInBounds_toArray, List.set_cons_zero, List.set_cons_succ]
  go_wp2_with (with_reducible show wpList _ _ _ ({ dst := _, op := Op.load 32 _, type := _, pos := _, after := _, guard := _ } :: _) _ _; refine Shut.out ?_)
  show wpList _ _ _ _ _ _
  refine wpList_load_mid rfl _ _ rfl g 35 rfl (cb b) _ HO1.out.rb Tryz.underlying32 rfl iy ?_
  simp only [Act.put, List.setIfInBounds_toArray, List.set_cons_zero, List.set_cons_succ]
  go_wp2_with fail
  refine (HP _ H1.out).out.mono ?_
  rintro e w2 ⟨rfl, u2⟩
  have H2 := Hid.of (H1.out.trans u2)
  clear u2
  dsimp only
  go_wp2
  go_ret
  exact ⟨rfl, H2.out⟩
set_option maxRecDepth 100000 in
theorem built_op (k : Int) (s u : ByteArray) : ∀ (a b : List UInt8), a.length = 32 → b.length = 32 → Tryz.prog.built 36 [(0, .int .i64 k), (1, .string s), (2, .string u), (3, .agg (cb a).toArray), (4, .agg (cb b).toArray)] = some (opc k s u a b (.slice none 0 0)).toArray
  | [a0, a1, a2, a3, a4, a5, a6, a7, a8, a9, a10, a11, a12, a13, a14, a15, a16, a17, a18, a19, a20, a21, a22, a23, a24, a25, a26, a27, a28, a29, a30, a31], [b0, b1, b2, b3, b4, b5, b6, b7, b8, b9, b10, b11, b12, b13, b14, b15, b16, b17, b18, b19, b20, b21, b22, b23, b24, b25, b26, b27, b28, b29, b30, b31], _, _ => by kernel_rfl
theorem wpList_buildOp {ops : Array Oper} {rest : List Oper} {o : Oper} {a : Act} {w : World} {Q : Exit → Act → World → Prop} (hg : o.guard = none) (parts : Array (Nat × Operand)) (ho : o.op = .build 36 parts) (l : List (Nat × Value)) (hl : (parts.map fun (i, x) => (i, a.eval x)).toList = l) (cs : Array Value) (hb : Tryz.prog.built 36 l = some cs)
    (h : wpList Tryz.prog ops Q rest (a.put o.dst (.agg cs)) w) : wpList Tryz.prog ops Q (o :: rest) a w :=
  wpList_build hg _ _ ho (by rw [hl, hb]; rfl) (by rw [hl, hb]; exact h)
set_option maxRecDepth 100000 in
set_option maxHeartbeats 1000000 in
theorem fits_law (s u : ByteArray) (a b : List UInt8) (ha : a.length = 32) (hb : b.length = 32) (w : World) (hG : GR w) (hL : TabL w) (hT : TK w) : Calls Tryz.prog 4 #[.string s, .string u, .agg (cb a ++ cb b).toArray] w fun e w' => e = .returned (.bool true) ∧ Up w w' := by
  have HK := fun w' => fun (k : Up w w') => Hid.of (known_walk w' (hG.up k))
  have H7 := fun w' => fun (k : Up w w') => Hid.of (rec_k7 s u a b (.slice none 0 0) ha hb w' (hG.up k) (hT.up k))
  have H13 := fun w' => fun (k : Up w w') => Hid.of (rec_k13 s u a b (.slice none 0 0) ha hb w' (hG.up k) (hL.below hL.lt k) (hT.up k))
  have hA := at_new w 33 (cb a ++ cb b)
  have hra : (w.alloc (.cells (cb a ++ cb b).toArray 33)).rangeAt w.heap.size 0 (cb a) := fun j v hv => hA.cell (by
    rw [Nat.zero_add, List.getElem?_append_left (List.getElem?_eq_some_iff.1 hv).1]
    exact hv)
  have hrb : (w.alloc (.cells (cb a ++ cb b).toArray 33)).rangeAt w.heap.size 32 (cb b) := fun j v hv => hA.cell (by
    rw [List.getElem?_append_right (by rw [cb_length, ha]; omega), cb_length, ha, show 32 + j - 32 = j by omega]
    exact hv)
  have HRA := Hid.of hra
  have HRB := Hid.of hrb
  have HU := Hid.of ((Up.refl w).alloc (.cells (cb a ++ cb b).toArray 33))
  have ix := i32 ha
  have iy := i32 hb
  have HAB := Hid.of (And.intro ha hb)
  clear hG hT hL hA hra hrb ha hb
  go_enter Tryz.func4, Tryz.ntmps4
  go_wp2
  generalize hW0 : w.alloc (.cells (cb a ++ cb b).toArray 33) = W0 at *
  generalize hg : w.heap.size = g at *
  go_loopw [7] (fun v7 wr => ∃ i : Nat, v7 = .int .i64 (i : Int) ∧ 7 ≤ i ∧ i ≤ 14 ∧ Hid (Up W0 wr)) (fun v7 _ => 14 - (intOf v7).toNat)
  case atStart => exact ⟨7, rfl, by omega, by omega, Up.refl _⟩
  case round =>
    obtain ⟨i, rfl, h7, h14, hI⟩ := hrel
    by_cases hlt : i ≤ 13
    · have hltz : (i : Int) ≤ 13 := by omega
      by_cases e7 : i = 7
      · subst e7
        have HBD := Hid.of (built_op 7 s u a b HAB.out.1 HAB.out.2)
        go_wp2_with (with_reducible show wpList _ _ _ ({ dst := _, op := Op.load 32 _, type := _, pos := _, after := _, guard := _ } :: _) _ _; refine Shut.out ?_)
        show wpList _ _ _ _ _ _
        refine wpList_load_mid rfl _ _ rfl g 0 rfl (cb a) _ (rng_up HRA.out hI.out) Tryz.underlying32 rfl ix ?_
        simp only [Act.put, List.setIfInBounds_toArray, List.set_cons_zero, List.set_cons_succ]
        go_wp2_with (with_reducible show wpList _ _ _ ({ dst := _, op := Op.load 32 _, type := _, pos := _, after := _, guard := _ } :: _) _ _; refine Shut.out ?_)
        show wpList _ _ _ _ _ _
        refine wpList_load_mid rfl _ _ rfl g 32 rfl (cb b) _ (rng_up HRB.out hI.out) Tryz.underlying32 rfl iy ?_
        simp only [Act.put, List.setIfInBounds_toArray, List.set_cons_zero, List.set_cons_succ]
        go_wp2_with (with_reducible show wpList _ _ _ ({ dst := _, op := Op.build 36 _, type := _, pos := _, after := _, guard := _ } :: _) _ _; refine Shut.out ?_)
        show wpList _ _ _ _ _ _
        refine wpList_buildOp rfl _ rfl [(0, .int .i64 7), (1, .string s), (2, .string u), (3, .agg (cb a).toArray), (4, .agg (cb b).toArray)] (by simp only [List.map_toArray, List.map_cons, List.map_nil]; rfl) _ HBD.out ?_
        simp only [Act.put, List.setIfInBounds_toArray, List.set_cons_zero, List.set_cons_succ]
        go_wp2_with fail
        refine (H7 _ (HU.out.trans hI.out)).out.mono ?_
        rintro e w1 ⟨rfl, u1⟩
        have H1 := Hid.of (hI.out.trans u1)
        clear u1 HBD
        dsimp only
        go_wp2
        go_roundw
        case rel => exact ⟨8, by go_num, by omega, by omega, H1.out⟩
        case measure => simp [intOf]
      · by_cases e13 : i = 13
        · subst e13
          have HBD := Hid.of (built_op 13 s u a b HAB.out.1 HAB.out.2)
          go_wp2_with (with_reducible show wpList _ _ _ ({ dst := _, op := Op.load 32 _, type := _, pos := _, after := _, guard := _ } :: _) _ _; refine Shut.out ?_)
          show wpList _ _ _ _ _ _
          refine wpList_load_mid rfl _ _ rfl g 0 rfl (cb a) _ (rng_up HRA.out hI.out) Tryz.underlying32 rfl ix ?_
          simp only [Act.put, List.setIfInBounds_toArray, List.set_cons_zero, List.set_cons_succ]
          go_wp2_with (with_reducible show wpList _ _ _ ({ dst := _, op := Op.load 32 _, type := _, pos := _, after := _, guard := _ } :: _) _ _; refine Shut.out ?_)
          show wpList _ _ _ _ _ _
          refine wpList_load_mid rfl _ _ rfl g 32 rfl (cb b) _ (rng_up HRB.out hI.out) Tryz.underlying32 rfl iy ?_
          simp only [Act.put, List.setIfInBounds_toArray, List.set_cons_zero, List.set_cons_succ]
          go_wp2_with (with_reducible show wpList _ _ _ ({ dst := _, op := Op.build 36 _, type := _, pos := _, after := _, guard := _ } :: _) _ _; refine Shut.out ?_)
          show wpList _ _ _ _ _ _
          refine wpList_buildOp rfl _ rfl [(0, .int .i64 13), (1, .string s), (2, .string u), (3, .agg (cb a).toArray), (4, .agg (cb b).toArray)] (by simp only [List.map_toArray, List.map_cons, List.map_nil]; rfl) _ HBD.out ?_
          simp only [Act.put, List.setIfInBounds_toArray, List.set_cons_zero, List.set_cons_succ]
          go_wp2_with fail
          refine (H13 _ (HU.out.trans hI.out)).out.mono ?_
          rintro e w1 ⟨rfl, u1⟩
          have H1 := Hid.of (hI.out.trans u1)
          clear u1 HBD
          dsimp only
          go_wp2
          go_roundw
          case rel => exact ⟨14, by go_num, by omega, by omega, H1.out⟩
          case measure => simp [intOf]
        · have z7 : ((i : Int) == 7) = false := by simp; omega
          have z13 : ((i : Int) == 13) = false := by simp; omega
          clear e7 e13
          go_wp2
          go_roundw
          case rel => exact ⟨i + 1, by go_num, by omega, by omega, hI.out⟩
          case measure => simp [intOf]; omega
    · have hltz : ¬ (i : Int) ≤ 13 := by omega
      go_wp2_with fail
      refine (HK _ (HU.out.trans hI.out)).out.mono ?_
      rintro e w1 ⟨rfl, u1⟩
      have H1 := Hid.of ((HU.out.trans hI.out).trans u1)
      clear u1
      dsimp only
      go_wp2
      go_ret
      exact ⟨rfl, H1.out⟩
end Go.Proofs.YtnciglpdjpckiaaGreatDoor
namespace Go.Proofs.YtnciglpdjpckiaaGreatDoor
open Go.RowKit Go.Shelf TextNum ModNum
/-- how often -/
def cnt (l : List (List UInt8)) (s : List UInt8) : Nat := (l.filter (· == s)).length
theorem cnt_take {l : List (List UInt8)} {i : Nat} (h : i < l.length) (s : List UInt8) : cnt (l.take (i + 1)) s = cnt (l.take i) s + if l[i] == s then 1 else 0 := by
  unfold cnt
  rw [List.take_succ_eq_append_getElem h, List.filter_append, List.length_append]
  cases hb : (l[i] == s) <;> simp [hb]
set_option maxRecDepth 100000 in
theorem count_walk (v : Value) (xs : List (List UInt8)) (s : ByteArray) (hx : xs.length ≤ 1099511627776) (w : World) (hS : SlS w v xs) : Calls Tryz.prog 11 #[v, .string s] w fun e w' => e = .returned (.int .i64 (cnt xs s.data.toList)) ∧ w' = w := by
  have HS := Hid.of hS
  obtain ⟨a, c, rfl, hcc, _⟩ := id hS
  obtain ⟨n, hn⟩ : ∃ n, xs.length = n := ⟨_, rfl⟩
  have HN := Hid.of hn
  rw [hn] at hcc hx HS ⊢
  have hccz : (n : Int) ≤ (c : Int) := by omega
  clear hS hn
  go_enter Tryz.func11, Tryz.ntmps11
  go_wp2
  go_loop [5, 6] (fun v5 v6 => ∃ i k : Nat, v6 = .int .i64 (i : Int) ∧ v5 = .int .i64 (k : Int) ∧ i ≤ n ∧ k ≤ i ∧ Hid (k = cnt (xs.take i) s.data.toList)) (fun _ v6 => n - (intOf v6).toNat)
  case atStart => exact ⟨0, 0, rfl, rfl, by omega, by omega, rfl⟩
  case round =>
    obtain ⟨i, k, rfl, rfl, hi, hk, hI⟩ := hrel
    by_cases hlt : i < n
    · have hltz : (i : Int) < (n : Int) := by omega
      have hil : i < xs.length := by rw [HN.out]; exact hlt
      obtain ⟨b, off, rfl, hc⟩ := HS.out.get hil
      have HT := Hid.of (cnt_take hil s.data.toList)
      obtain ⟨x, hx1, hx2⟩ := ba_ex xs[i]
      rw [hx2] at hc
      rw [← hx1] at HT
      have hq : (x.toList == s.toList) = (x.data.toList == s.data.toList) := by rw [Go.Lib.toList_data, Go.Lib.toList_data]
      clear hx1 hx2
      cases hb : (x.data.toList == s.data.toList) with
      | true =>
        rw [hb] at hq HT
        clear hb
        go_wp2
        go_roundw
        case rel => exact ⟨i + 1, k + 1, by go_num, by go_num, by omega, by omega, by rw [HT.out, ← hI.out]; rfl⟩
        case measure => simp [intOf]; omega
      | false =>
        rw [hb] at hq HT
        clear hb
        go_wp2
        go_roundw
        case rel => exact ⟨i + 1, k, by go_num, rfl, by omega, by omega, by rw [HT.out, ← hI.out]; rfl⟩
        case measure => simp [intOf]; omega
    · have hltz : ¬ (i : Int) < (n : Int) := by omega
      have HF := Hid.of (show k = cnt xs s.data.toList by
        have := hI.out
        rwa [List.take_of_length_le (by rw [HN.out]; omega)] at this)
      go_wp2
      go_ret
      rw [← HF.out]
      exact ⟨rfl, rfl⟩
end Go.Proofs.YtnciglpdjpckiaaGreatDoor
namespace Go.Proofs.YtnciglpdjpckiaaGreatDoor
open Go.RowKit TextNum ModNum Go.Lib
set_option maxRecDepth 100000 in
theorem nChars : Tryz.prog.globalNamed "ledger/modver.characters" = some 3 := by kernel_rfl
set_option maxRecDepth 100000 in
theorem nRes : Tryz.prog.globalNamed "ledger/modver.reserved" = some 4 := by kernel_rfl
def rowsT : List (Int × Int × Int) := [(97, 122, 1), (65, 90, 2), (48, 57, 4), (45, 45, 8), (46, 46, 16), (95, 95, 32), (126, 126, 32), (47, 47, 64)]
set_option maxRecDepth 100000 in
theorem chars_data : (Rows.laid_ledger_modver_characters : DataW Unit) = .agg (rowsT.map fun r => .agg [.lit (.int .i32 r.1), .lit (.int .i32 r.2.1), .lit (.int .u8 r.2.2)]) := by kernel_rfl
set_option maxRecDepth 100000 in
theorem res_data : (Rows.laid_ledger_modver_reserved : DataW Unit) = .agg (rsv.map fun l => .lit (.string l)) := by kernel_rfl
set_option maxRecDepth 100000 in
theorem row_cells {W : World} {base : Nat} {sp : Nat → Bool} {held : Bool} {fuel : Nat} {cs : List Value} {a b c : Int} {q : List MemPlace} {enc : TypeId × Value → Unit}
    (h : DataW.trod enc Tryz.prog W base sp held fuel 169 cs = some (.agg [.lit (.int .i32 a), .lit (.int .i32 b), .lit (.int .u8 c)], q)) : cs = [.int .i32 a, .int .i32 b, .int .u8 c] := by
  obtain ⟨ys, m, _, hx, hl, hn, hel⟩ := DataW.trod_struct Tryz.underlying169 h
  rw [show Tryz.prog.cellsOf 169 = 3 by kernel_rfl] at hl
  have hn3 : ys.length = 3 := hn
  have e0 : DataW.trod enc Tryz.prog W base sp held m 21 ((cs.drop 0).take (Tryz.prog.cellsOf 21)) = ys[0]? := hel 0 _ rfl
  have e1 : DataW.trod enc Tryz.prog W base sp held m 21 ((cs.drop 1).take (Tryz.prog.cellsOf 21)) = ys[1]? := hel 1 _ rfl
  have e2 : DataW.trod enc Tryz.prog W base sp held m 142 ((cs.drop 2).take (Tryz.prog.cellsOf 142)) = ys[2]? := hel 2 _ rfl
  rw [show Tryz.prog.cellsOf 21 = 1 by kernel_rfl, List.getElem?_eq_getElem (by omega)] at e0 e1
  rw [show Tryz.prog.cellsOf 142 = 1 by kernel_rfl, List.getElem?_eq_getElem (by omega)] at e2
  obtain ⟨z0, f0, g0, _⟩ := DataW.trod_int Tryz.underlying21 e0
  obtain ⟨z1, f1, g1, _⟩ := DataW.trod_int Tryz.underlying21 e1
  obtain ⟨z2, f2, g2, _⟩ := DataW.trod_int Tryz.underlying142 e2
  have hd := congrArg Prod.fst hx
  simp only at hd
  match ys, hn3 with
  | [y0, y1, y2], _ =>
    simp only [List.getElem_cons_zero, List.getElem_cons_succ] at g0 g1 g2
    simp only [List.map_cons, List.map_nil, g0, g1, g2, DataW.agg.injEq, List.cons.injEq, DataW.lit.injEq, Lit.int.injEq, true_and, and_true] at hd
    obtain ⟨rfl, rfl, rfl⟩ := hd
    match cs, hl with
    | [u0, u1, u2], _ =>
      simp only [List.drop_zero, List.take_succ_cons, List.take_zero, List.cons.injEq, and_true, List.drop_succ_cons] at f0 f1 f2
      rw [f0, f1, f2]
set_option maxRecDepth 100000 in
theorem chars_of {W : World} (h : VarReads Tryz.prog W "ledger/modver.characters" Rows.laid_ledger_modver_characters) : W.rangeAt 3 0 chC := by
  rw [chars_data] at h
  obtain ⟨g, t, cs, fuel, p, hg, hty, hvar, hd⟩ := h
  obtain rfl := Option.some.inj (nChars.symm.trans hg)
  obtain rfl := Option.some.inj ((show (Tryz.prog.globals[3]?).map (·.type) = some 170 by kernel_rfl).symm.trans hty)
  have key : ∀ k, k < 8 → (cs.toList.drop (k * 3)).take 3 = (chC.drop (k * 3)).take 3 := by
    intro k hk
    obtain ⟨fuel', d, q, hdi, he⟩ := array_elem Tryz.underlying170 hd k hk
    rw [show Tryz.prog.cellsOf 169 = 3 by kernel_rfl] at he
    have hkl : k < rowsT.length := hk
    rw [List.getElem?_map, List.getElem?_eq_getElem hkl] at hdi
    simp only [Option.map_some, Option.some.injEq] at hdi
    subst hdi
    rw [row_cells he]
    obtain rfl | rfl | rfl | rfl | rfl | rfl | rfl | rfl : k = 0 ∨ k = 1 ∨ k = 2 ∨ k = 3 ∨ k = 4 ∨ k = 5 ∨ k = 6 ∨ k = 7 := by omega
    all_goals rfl
  intro j v hj
  have hj24 : j < 24 := (List.getElem?_eq_some_iff.1 hj).1
  have h1 := congrArg (·[j % 3]?) (key (j / 3) (by omega))
  simp only [List.getElem?_take, List.getElem?_drop] at h1
  rw [if_pos (by omega), show j / 3 * 3 + j % 3 = j by omega, hj, if_pos (by omega)] at h1
  rw [World.var?_cell hg hvar (0 + j), ← Array.getElem?_toList, Nat.zero_add]
  exact h1
set_option maxRecDepth 100000 in
theorem res_of {W : World} (h : VarReads Tryz.prog W "ledger/modver.reserved" Rows.laid_ledger_modver_reserved) : W.rangeAt 4 0 rsC := by
  rw [res_data] at h
  obtain ⟨g, t, cs, fuel, p, hg, hty, hvar, hd⟩ := h
  obtain rfl := Option.some.inj (nRes.symm.trans hg)
  obtain rfl := Option.some.inj ((show (Tryz.prog.globals[4]?).map (·.type) = some 162 by kernel_rfl).symm.trans hty)
  intro k v hv
  have hk : k < 22 := (List.getElem?_eq_some_iff.1 hv).1
  obtain ⟨fuel', d, q, hdi, he⟩ := array_elem Tryz.underlying162 hd k hk
  obtain ⟨s, hs, hx, _⟩ := DataW.trod_string Tryz.underlying9 he
  rw [show Tryz.prog.cellsOf 9 = 1 by kernel_rfl] at hs
  have hkl : k < rsv.length := hk
  rw [List.getElem?_map, List.getElem?_eq_getElem hkl] at hdi
  have e2 : DataW.lit (Lit.string rsv[k]) = (DataW.lit (.string s.data.toList) : DataW Unit) := by
    have h1 : some _ = some d := hdi
    rw [Option.some.injEq] at h1
    exact h1.trans (Prod.mk.inj hx).1
  have e3 : rsv[k] = s.data.toList := by
    injection e2 with e2
    injection e2
  have h0 := congrArg (·[0]?) hs
  simp only [List.getElem?_take, List.getElem?_drop, Nat.mul_one] at h0
  rw [World.var?_cell hg hvar (0 + k), ← Array.getElem?_toList, Nat.zero_add]
  have h1 : cs.toList[k]? = some (Value.string s) := by simpa using h0
  unfold rsC at hv
  rw [List.getElem?_map, List.getElem?_eq_getElem hkl, Option.map_some, Option.some.injEq, e3] at hv
  rw [h1, ← hv]
set_option maxRecDepth 100000 in
theorem max_of {W : World} (h : W.ShapedOpen Tryz.prog) : ∃ m, W.cell? ⟨2, 0, none⟩ = some (.int .i64 m) :=
  Go.Proofs.cell_of_shapedOpen_int (zero := #[.int .i64 0]) (t := 3) h (of_decide_eq_true (by kernel_rfl)) (by kernel_rfl) rfl (by kernel_rfl) (by kernel_rfl) Tryz.underlying3
end Go.Proofs.YtnciglpdjpckiaaGreatDoor
namespace Go.Proofs.YtnciglpdjpckiaaGreatDoor
open Go.RowKit TextNum ModNum Go.Lib
set_option maxRecDepth 100000 in
theorem tabLet : (Rows.laid_ledger_text_letters : DataW Unit) = tabData .u8 (TextNum.LT.map fun c => (c.toNat : Int)) := by kernel_rfl
set_option maxRecDepth 100000 in
theorem nLet : Tryz.prog.globalNamed "ledger/text.letters" = some 0 := by kernel_rfl
set_option maxRecDepth 100000 in
theorem let_of {W : World} (h : VarReads Tryz.prog W "ledger/text.letters" Rows.laid_ledger_text_letters) : TabL W := by
  rw [tabLet] at h
  obtain ⟨g, t, cs, fuel, p, hg, hty, hvar, hd⟩ := h
  obtain rfl := Option.some.inj (nLet.symm.trans hg)
  obtain rfl := Option.some.inj ((show (Tryz.prog.globals[0]?).map (·.type) = some 153 by kernel_rfl).symm.trans hty)
  have hcs := cells_of_tab Tryz.underlying153 Tryz.underlying5 (by kernel_rfl) (by kernel_rfl) hd
  intro i hi
  have hl : i < TextNum.LT.length := by simpa [TextNum.LT] using hi
  rw [World.var?_cell hg hvar i, ← Array.getElem?_toList, hcs]
  simp [TextNum.lt, List.getD, hl]
set_option maxRecDepth 100000 in
theorem nTk : Tryz.prog.globalNamed "ledger/ledgerref11.taken" = some 1 := by kernel_rfl
set_option maxRecDepth 100000 in
theorem tk_data : (Rows.laid_ledger_ledgerref11_taken : DataW Unit) = .agg (rsv.map fun l => .lit (.string l)) := by kernel_rfl
set_option maxRecDepth 100000 in
theorem taken_raw {W : World} (h : VarReads Tryz.prog W "ledger/ledgerref11.taken" Rows.laid_ledger_ledgerref11_taken) : W.rangeAt 1 0 rsC := by
  rw [tk_data] at h
  obtain ⟨g, t, cs, fuel, p, hg, hty, hvar, hd⟩ := h
  obtain rfl := Option.some.inj (nTk.symm.trans hg)
  obtain rfl := Option.some.inj ((show (Tryz.prog.globals[1]?).map (·.type) = some 162 by kernel_rfl).symm.trans hty)
  intro k v hv
  have hk : k < 22 := (List.getElem?_eq_some_iff.1 hv).1
  obtain ⟨fuel', d, q, hdi, he⟩ := array_elem Tryz.underlying162 hd k hk
  obtain ⟨s, hs, hx, _⟩ := DataW.trod_string Tryz.underlying9 he
  rw [show Tryz.prog.cellsOf 9 = 1 by kernel_rfl] at hs
  have hkl : k < rsv.length := hk
  rw [List.getElem?_map, List.getElem?_eq_getElem hkl] at hdi
  have e2 : DataW.lit (Lit.string rsv[k]) = (DataW.lit (.string s.data.toList) : DataW Unit) := by
    have h1 : some _ = some d := hdi
    rw [Option.some.injEq] at h1
    exact h1.trans (Prod.mk.inj hx).1
  have e3 : rsv[k] = s.data.toList := by
    injection e2 with e2
    injection e2
  have h0 := congrArg (·[0]?) hs
  simp only [List.getElem?_take, List.getElem?_drop, Nat.mul_one] at h0
  rw [World.var?_cell hg hvar (0 + k), ← Array.getElem?_toList, Nat.zero_add]
  have h1 : cs.toList[k]? = some (Value.string s) := by simpa using h0
  unfold rsC at hv
  rw [List.getElem?_map, List.getElem?_eq_getElem hkl, Option.map_some, Option.some.injEq, e3] at hv
  rw [h1, ← hv]
theorem taken_of {W : World} (h : VarReads Tryz.prog W "ledger/ledgerref11.taken" Rows.laid_ledger_ledgerref11_taken) : TK W := fun k hk => by
  have h1 := taken_raw h k (.string ⟨(rsv[k]).toArray⟩) (by
    unfold rsC
    rw [List.getElem?_map, List.getElem?_eq_getElem hk]
    rfl)
  rwa [Nat.zero_add] at h1
theorem glFits {W : World} (h : laidMetH Tryz.prog Rows.modverFitsRow.laid W) (hs : W.ShapedOpen Tryz.prog) : GR W ∧ TabL W ∧ TK W := by
  rw [MakeChecks.laidMetH_plain _ _ _ (by kernel_rfl)] at h
  exact ⟨⟨⟨chars_of (laidMet.reads h (by simp [Rows.modverFitsRow])), max_of hs⟩, res_of (laidMet.reads h (by simp [Rows.modverFitsRow]))⟩, let_of (laidMet.reads h (by simp [Rows.modverFitsRow])), taken_of (laidMet.reads h (by simp [Rows.modverFitsRow]))⟩
end Go.Proofs.YtnciglpdjpckiaaGreatDoor
