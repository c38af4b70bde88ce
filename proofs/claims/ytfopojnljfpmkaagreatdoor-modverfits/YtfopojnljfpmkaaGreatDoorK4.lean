import Derived.Test.YtfopojnljfpmkaaGreatDoorK2
import Derived.Test.YtfopojnljfpmkaaGreatDoorKB
import Derived.Test.YtfopojnljfpmkaaGreatDoorK3
import Derived.Test.YtfopojnljfpmkaaGreatDoorK8
import Derived.Laws.Tables
namespace Go.Proofs.YtfopojnljfpmkaaGreatDoor
open Go.RowKit Go.Shelf TextNum ModNum
set_option maxRecDepth 100000 in
set_option maxHeartbeats 1000000 in
theorem RSum_walk (x : List UInt8) (hx : x.length = 32) (w : World) : Calls Tryz.prog 28 #[.agg (cb x).toArray] w fun e w' => e = .returned (vs (sumT x)) ∧ Up w w' := by
  have HA := Hid.of (at_new w 32 (cb x))
  have HU := Hid.of ((Up.refl w).alloc (.cells (cb x).toArray 32))
  have HSZ := Hid.of (alloc_size w (.cells (cb x).toArray 32))
  have HX := Hid.of hx
  have hxz : (cb x).length = 32 := by rw [cb_length]; exact hx
  have hx' := hx
  clear hx
  go_enter Tryz.func28, Tryz.ntmps28
  go_wp2
  generalize w.alloc (.cells (cb x).toArray 32) = W0 at *
  go_loopw [3, 4] (fun v3 v4 wr => ∃ i : Nat, v4 = .int .i64 (i : Int) ∧ i ≤ 32 ∧ Hid (Own wr W0.heap.size v3 (x.take i) ∧ Up W0 wr)) (fun _ v4 _ => 32 - (intOf v4).toNat)
  case atStart => exact ⟨0, rfl, by omega, own_nil _ _, Up.refl _⟩
  case round =>
    obtain ⟨i, rfl, hi, hI⟩ := hrel
    by_cases hlt : i < 32
    · have hlt' : (i : Int) < 32 := by omega
      have hil : i < x.length := by rw [HX.out]; exact hlt
      have HT := Hid.of (take_succ6 hil)
      have hc := hI.out.2.cell (HA.out.cell (cb_get hil))
      generalize x[i] = y at *
      have HL := Hid.of (show (x.take i).length + 1 ≤ 140737488355328 by rw [List.length_take]; omega)
      go_wp2_with (with_reducible show wpList _ _ _ ({ dst := _, op := Op.call { callee := Callee.builtin Builtin.append, args := _, argTypes := _ }, type := _, pos := _, after := _, guard := _ } :: _) _ _; refine Shut.out ?_)
      show wpList _ _ _ _ _ _
      refine wpList_app1 rfl _ _ rfl W0.heap.size _ (x.take i) [y] rfl (by exact hI.out.1) 1 rfl (by have := HL.out; simpa using this) hI.out.2.size ?_
      intro v' w3 h3 k3
      have H3 := Hid.of (And.intro h3 (hI.out.2.step (Nat.le_refl _) k3))
      clear h3 k3
      simp only [Act.put, List.setIfInBounds_toArray, List.set_cons_zero, List.set_cons_succ]
      go_wp2
      go_roundw
      case rel => exact ⟨i + 1, by go_num, by omega, by rw [HT.out]; exact H3.out.1, H3.out.2⟩
      case measure => simp [intOf]; omega
    · have hlt' : ¬ (i : Int) < 32 := by omega
      have ht : x.take i = x := List.take_of_length_le (by rw [HX.out]; omega)
      rw [ht] at hI
      have HE := Hid.of (REncode64_walk _ x wr (Own.sl hI.out.1) (by rw [HX.out]; decide))
      have HU2 := Hid.of (HU.out.trans hI.out.2)
      obtain ⟨a3, c3, ev⟩ := hI.out.1.len
      have hl32 : x.length = 32 := HX.out
      rw [hl32] at ev
      subst ev
      clear hI ht hlt
      obtain ⟨q, hq1, hq2⟩ := ba_ex (b64E x)
      have hqs : q.size ≤ 44 := by rw [← len_of, hq1, b64E_length, hl32]; decide
      go_wp2_with fail
      refine HE.out.mono ?_
      rintro e w4 ⟨rfl, u4⟩
      have H4 := Hid.of (HU2.out.trans u4)
      rw [show vs (b64E x) = .string q from congrArg Value.string hq2]
      clear u4 HE
      dsimp only
      go_wp2
      go_ret
      refine ⟨?_, H4.out⟩
      rw [← hq2]
      rfl
theorem recT_eq (p v a b : List UInt8) (h : fte p v = 0) : recT p v a b = p ++ [32] ++ v ++ [32] ++ sumT a ++ [10] ++ p ++ [32] ++ v ++ [47, 103, 111, 46, 109, 111, 100, 32] ++ sumT b ++ [10] := by
  unfold recT
  rw [if_pos h]
  simp [lin]
set_option maxRecDepth 100000 in
set_option maxHeartbeats 1000000 in
theorem RRecord_walk (p v : ByteArray) (x y : List UInt8) (hx : x.length = 32) (hy : y.length = 32) (w : World) (hT : TK w) :
    Calls Tryz.prog 31 #[.string p, .string v, .agg (cb x).toArray, .agg (cb y).toArray] w fun e w' => e = .returned (.tuple #[vs (recT p.data.toList v.data.toList x y), .int .i64 (fte p.data.toList v.data.toList)]) ∧ Up w w' := by
  have HF := fun w' => fun (u : Up w w') => Hid.of (Fits_walk p v w' (hT.up u))
  have HSx := fun w' => Hid.of (RSum_walk x hx w')
  have HSy := fun w' => Hid.of (RSum_walk y hy w')
  have HA1 : Hid (At ((w.alloc (.cells (cb x).toArray 32)).alloc (.cells (cb y).toArray 32)) w.heap.size 32 (cb x)) := At.up (at_new w 32 (cb x)) ((Up.refl _).alloc _)
  have HA2 : Hid (At ((w.alloc (.cells (cb x).toArray 32)).alloc (.cells (cb y).toArray 32)) (w.heap.size + 1) 32 (cb y)) := by
    have := at_new (w.alloc (.cells (cb x).toArray 32)) 32 (cb y)
    rw [alloc_size] at this
    exact this
  have HU : Hid (Up w ((w.alloc (.cells (cb x).toArray 32)).alloc (.cells (cb y).toArray 32))) := ((Up.refl w).alloc _).alloc _
  have HlX := Hid.of (And.intro hx hy)
  clear hT hx hy
  go_enter Tryz.func31, Tryz.ntmps31
  go_wp2_with fail
  generalize (w.alloc (.cells (cb x).toArray 32)).alloc (.cells (cb y).toArray 32) = W0 at *
  refine (HF _ HU.out).out.mono ?_
  rintro e w1 ⟨rfl, u1⟩
  have HB1 := Hid.of (HA1.out.up u1)
  have HB2 := Hid.of (HA2.out.up u1)
  have HU2 := Hid.of (HU.out.trans u1)
  clear u1 HF HA1 HA2 HU
  dsimp only
  by_cases h0 : fte p.data.toList v.data.toList = 0
  · have HR2 := Hid.of (recT_eq p.data.toList v.data.toList x y h0)
    have H0 := Hid.of (And.intro h0 trivial)
    obtain ⟨hp1, hv2⟩ := fte_len h0
    rw [len_of] at hp1 hv2
    rw [h0]
    clear h0
    have ix := i32 HlX.out.1
    have iy := i32 HlX.out.2
    have hlx := sumT_len HlX.out.1
    have hly := sumT_len HlX.out.2
    obtain ⟨sx, hx1, hx2⟩ := ba_ex (sumT x)
    obtain ⟨sy, hy1, hy2⟩ := ba_ex (sumT y)
    have hsx : sx.size = 47 := by rw [← len_of, hx1, hlx]
    have hsy : sy.size = 47 := by rw [← len_of, hy1, hly]
    rw [← hx1, ← hy1] at HR2
    rw [show vs (sumT x) = .string sx from congrArg Value.string hx2] at HSx
    rw [show vs (sumT y) = .string sy from congrArg Value.string hy2] at HSy
    clear hx1 hx2 hy1 hy2 hlx hly
    have k1 : ¬ 9223372036854775807 < p.size + 1 := by omega
    have k2 : ¬ 9223372036854775807 < p.size + 1 + v.size := by omega
    have k3 : ¬ 9223372036854775807 < p.size + 1 + v.size + 1 := by omega
    have k4 : ¬ 9223372036854775807 < p.size + 1 + v.size + 1 + sx.size := by omega
    have k5 : ¬ 9223372036854775807 < p.size + 1 + v.size + 1 + sx.size + 1 := by omega
    have k6 : ¬ 9223372036854775807 < p.size + 1 + v.size + 1 + sx.size + 1 + p.size := by omega
    have k7 : ¬ 9223372036854775807 < p.size + 1 + v.size + 1 + sx.size + 1 + p.size + 1 := by omega
    have k8 : ¬ 9223372036854775807 < p.size + 1 + v.size + 1 + sx.size + 1 + p.size + 1 + v.size := by omega
    have k9 : ¬ 9223372036854775807 < p.size + 1 + v.size + 1 + sx.size + 1 + p.size + 1 + v.size + 8 := by omega
    have k10 : ¬ 9223372036854775807 < p.size + 1 + v.size + 1 + sx.size + 1 + p.size + 1 + v.size + 8 + sy.size := by omega
    have k11 : ¬ 9223372036854775807 < p.size + 1 + v.size + 1 + sx.size + 1 + p.size + 1 + v.size + 8 + sy.size + 1 := by omega
    clear hsx hsy hp1 hv2
    go_wp2
    refine wp_region_held_drew (S := fun w2 => w2.rangeAt (w.heap.size) 0 (cb x) ∧ w2.rangeAt (w.heap.size + 1) 0 (cb y) ∧ Up w w2) (by kernel_rfl) ⟨by simpa using HB1.out.range, by simpa using HB2.out.range, HU2.out.drew⟩ (fun hS => ?_)
    refine wpAnyH_take (i := 0) (oi := { dst := some 17, op := Go.Op.move (Go.Operand.tmp 0), type := 9, pos := "order.go:171", after := #[], guard := none }) (v := .string p) rfl (by kernel_rfl) (by kernel_rfl) (by kernel_rfl) (fun _ _ _ h => h) (Or.inl ⟨by kernel_rfl, ?_⟩) hS ?_
    · intro w5 hSw
      go_simp
    simp only [Act.put, List.setIfInBounds_toArray, List.set_cons_zero, List.set_cons_succ]
    refine wpAnyH_take (i := 1) (oi := { dst := some 18, op := Go.Op.binOp Go.BinOp.add 9 (Go.Operand.tmp 17) (Go.Operand.const (Go.Value.string { data := #[32] })) 9, type := 9, pos := "order.go:171", after := #[{ on := 0, ground := Go.Ground.data }], guard := none }) (v := .string (p ++ ⟨#[32]⟩)) rfl (by kernel_rfl) (by kernel_rfl) (by kernel_rfl) (fun _ _ _ h => h) (Or.inl ⟨by kernel_rfl, ?_⟩) hS ?_
    · intro w5 hSw
      go_simp
    simp only [Act.put, List.setIfInBounds_toArray, List.set_cons_zero, List.set_cons_succ]
    refine wpAnyH_take (i := 2) (oi := { dst := some 19, op := Go.Op.move (Go.Operand.tmp 1), type := 9, pos := "order.go:171", after := #[], guard := none }) (v := .string v) rfl (by kernel_rfl) (by kernel_rfl) (by kernel_rfl) (fun _ _ _ h => h) (Or.inl ⟨by kernel_rfl, ?_⟩) hS ?_
    · intro w5 hSw
      go_simp
    simp only [Act.put, List.setIfInBounds_toArray, List.set_cons_zero, List.set_cons_succ]
    refine wpAnyH_take (i := 3) (oi := { dst := some 20, op := Go.Op.binOp Go.BinOp.add 9 (Go.Operand.tmp 18) (Go.Operand.tmp 19) 9, type := 9, pos := "order.go:171", after := #[{ on := 1, ground := Go.Ground.data }, { on := 2, ground := Go.Ground.data }], guard := none }) (v := .string (p ++ ⟨#[32]⟩ ++ v)) rfl (by kernel_rfl) (by kernel_rfl) (by kernel_rfl) (fun _ _ _ h => h) (Or.inl ⟨by kernel_rfl, ?_⟩) hS ?_
    · intro w5 hSw
      go_simp
    simp only [Act.put, List.setIfInBounds_toArray, List.set_cons_zero, List.set_cons_succ]
    refine wpAnyH_take (i := 4) (oi := { dst := some 21, op := Go.Op.binOp Go.BinOp.add 9 (Go.Operand.tmp 20) (Go.Operand.const (Go.Value.string { data := #[32] })) 9, type := 9, pos := "order.go:171", after := #[{ on := 3, ground := Go.Ground.data }], guard := none }) (v := .string (p ++ ⟨#[32]⟩ ++ v ++ ⟨#[32]⟩)) rfl (by kernel_rfl) (by kernel_rfl) (by kernel_rfl) (fun _ _ _ h => h) (Or.inl ⟨by kernel_rfl, ?_⟩) hS ?_
    · intro w5 hSw
      go_simp
    simp only [Act.put, List.setIfInBounds_toArray, List.set_cons_zero, List.set_cons_succ]
    refine wpAnyH_take (i := 5) (oi := { dst := some 22, op := Go.Op.load 32 (Go.Operand.tmp 6), type := 32, pos := "order.go:171", after := #[], guard := none }) (v := .agg (cb x).toArray) rfl (by kernel_rfl) (by kernel_rfl) (by kernel_rfl) (fun _ _ _ h => h) (yieldsIf_load_mid (by kernel_rfl) _ _ rfl (w.heap.size) 0 rfl (cb x) _ (fun w5 hSw => hSw.1) Tryz.underlying32 rfl ix) hS ?_
    simp only [Act.put, List.setIfInBounds_toArray, List.set_cons_zero, List.set_cons_succ]
    refine wpAnyH_take (i := 9) (oi := { dst := some 26, op := Go.Op.move (Go.Operand.tmp 0), type := 9, pos := "order.go:171", after := #[], guard := none }) (v := .string p) rfl (by kernel_rfl) (by kernel_rfl) (by kernel_rfl) (fun _ _ _ h => h) (Or.inl ⟨by kernel_rfl, ?_⟩) hS ?_
    · intro w5 hSw
      go_simp
    simp only [Act.put, List.setIfInBounds_toArray, List.set_cons_zero, List.set_cons_succ]
    refine wpAnyH_take (i := 12) (oi := { dst := some 29, op := Go.Op.move (Go.Operand.tmp 1), type := 9, pos := "order.go:171", after := #[], guard := none }) (v := .string v) rfl (by kernel_rfl) (by kernel_rfl) (by kernel_rfl) (fun _ _ _ h => h) (Or.inl ⟨by kernel_rfl, ?_⟩) hS ?_
    · intro w5 hSw
      go_simp
    simp only [Act.put, List.setIfInBounds_toArray, List.set_cons_zero, List.set_cons_succ]
    refine wpAnyH_take (i := 15) (oi := { dst := some 32, op := Go.Op.load 32 (Go.Operand.tmp 7), type := 32, pos := "order.go:171", after := #[], guard := none }) (v := .agg (cb y).toArray) rfl (by kernel_rfl) (by kernel_rfl) (by kernel_rfl) (fun _ _ _ h => h) (yieldsIf_load_mid (by kernel_rfl) _ _ rfl (w.heap.size + 1) 0 rfl (cb y) _ (fun w5 hSw => hSw.2.1) Tryz.underlying32 rfl iy) hS ?_
    simp only [Act.put, List.setIfInBounds_toArray, List.set_cons_zero, List.set_cons_succ]
    refine wpAnyH_ready (rs := [6]) (by kernel_rfl) (by simp) ?_
    refine AllReadyH.cons (o := { dst := some 23, op := Go.Op.call { callee := Go.Callee.value (Go.Operand.func 28), args := #[Go.Operand.tmp 22], argTypes := #[32] }, type := 9, pos := "order.go:171", after := #[{ on := 5, ground := Go.Ground.data }], guard := none }) rfl (fun K hK => ?_) AllReadyH.nil
    rw [if_pos (by kernel_rfl)]
    go_simp
    refine ((HSx _).out).mono ?_
    rintro e v1 ⟨rfl, u1⟩
    dsimp only
    refine hK.out _ _ ⟨rng_up hS.1 u1, rng_up hS.2.1 u1, hS.2.2.trans u1⟩ (fun hS1 => ?_)
    clear hK hS u1
    refine wpAnyH_take (i := 7) (oi := { dst := some 24, op := Go.Op.binOp Go.BinOp.add 9 (Go.Operand.tmp 21) (Go.Operand.tmp 23) 9, type := 9, pos := "order.go:171", after := #[{ on := 4, ground := Go.Ground.data }, { on := 6, ground := Go.Ground.data }], guard := none }) (v := .string (p ++ ⟨#[32]⟩ ++ v ++ ⟨#[32]⟩ ++ sx)) rfl (by kernel_rfl) (by kernel_rfl) (by kernel_rfl) (fun _ _ _ h => h) (Or.inl ⟨by kernel_rfl, ?_⟩) hS1 ?_
    · intro w5 hSw
      go_simp
    simp only [Act.put, List.setIfInBounds_toArray, List.set_cons_zero, List.set_cons_succ]
    refine wpAnyH_take (i := 8) (oi := { dst := some 25, op := Go.Op.binOp Go.BinOp.add 9 (Go.Operand.tmp 24) (Go.Operand.const (Go.Value.string { data := #[10] })) 9, type := 9, pos := "order.go:171", after := #[{ on := 7, ground := Go.Ground.data }], guard := none }) (v := .string (p ++ ⟨#[32]⟩ ++ v ++ ⟨#[32]⟩ ++ sx ++ ⟨#[10]⟩)) rfl (by kernel_rfl) (by kernel_rfl) (by kernel_rfl) (fun _ _ _ h => h) (Or.inl ⟨by kernel_rfl, ?_⟩) hS1 ?_
    · intro w5 hSw
      go_simp
    simp only [Act.put, List.setIfInBounds_toArray, List.set_cons_zero, List.set_cons_succ]
    refine wpAnyH_take (i := 10) (oi := { dst := some 27, op := Go.Op.binOp Go.BinOp.add 9 (Go.Operand.tmp 25) (Go.Operand.tmp 26) 9, type := 9, pos := "order.go:171", after := #[{ on := 8, ground := Go.Ground.data }, { on := 9, ground := Go.Ground.data }], guard := none }) (v := .string (p ++ ⟨#[32]⟩ ++ v ++ ⟨#[32]⟩ ++ sx ++ ⟨#[10]⟩ ++ p)) rfl (by kernel_rfl) (by kernel_rfl) (by kernel_rfl) (fun _ _ _ h => h) (Or.inl ⟨by kernel_rfl, ?_⟩) hS1 ?_
    · intro w5 hSw
      go_simp
    simp only [Act.put, List.setIfInBounds_toArray, List.set_cons_zero, List.set_cons_succ]
    refine wpAnyH_take (i := 11) (oi := { dst := some 28, op := Go.Op.binOp Go.BinOp.add 9 (Go.Operand.tmp 27) (Go.Operand.const (Go.Value.string { data := #[32] })) 9, type := 9, pos := "order.go:171", after := #[{ on := 10, ground := Go.Ground.data }], guard := none }) (v := .string (p ++ ⟨#[32]⟩ ++ v ++ ⟨#[32]⟩ ++ sx ++ ⟨#[10]⟩ ++ p ++ ⟨#[32]⟩)) rfl (by kernel_rfl) (by kernel_rfl) (by kernel_rfl) (fun _ _ _ h => h) (Or.inl ⟨by kernel_rfl, ?_⟩) hS1 ?_
    · intro w5 hSw
      go_simp
    simp only [Act.put, List.setIfInBounds_toArray, List.set_cons_zero, List.set_cons_succ]
    refine wpAnyH_take (i := 13) (oi := { dst := some 30, op := Go.Op.binOp Go.BinOp.add 9 (Go.Operand.tmp 28) (Go.Operand.tmp 29) 9, type := 9, pos := "order.go:171", after := #[{ on := 11, ground := Go.Ground.data }, { on := 12, ground := Go.Ground.data }], guard := none }) (v := .string (p ++ ⟨#[32]⟩ ++ v ++ ⟨#[32]⟩ ++ sx ++ ⟨#[10]⟩ ++ p ++ ⟨#[32]⟩ ++ v)) rfl (by kernel_rfl) (by kernel_rfl) (by kernel_rfl) (fun _ _ _ h => h) (Or.inl ⟨by kernel_rfl, ?_⟩) hS1 ?_
    · intro w5 hSw
      go_simp
    simp only [Act.put, List.setIfInBounds_toArray, List.set_cons_zero, List.set_cons_succ]
    refine wpAnyH_take (i := 14) (oi := { dst := some 31, op := Go.Op.binOp Go.BinOp.add 9 (Go.Operand.tmp 30) (Go.Operand.const (Go.Value.string { data := #[47, 103, 111, 46, 109, 111, 100, 32] })) 9, type := 9, pos := "order.go:171", after := #[{ on := 13, ground := Go.Ground.data }], guard := none }) (v := .string (p ++ ⟨#[32]⟩ ++ v ++ ⟨#[32]⟩ ++ sx ++ ⟨#[10]⟩ ++ p ++ ⟨#[32]⟩ ++ v ++ ⟨#[47, 103, 111, 46, 109, 111, 100, 32]⟩)) rfl (by kernel_rfl) (by kernel_rfl) (by kernel_rfl) (fun _ _ _ h => h) (Or.inl ⟨by kernel_rfl, ?_⟩) hS1 ?_
    · intro w5 hSw
      go_simp
    simp only [Act.put, List.setIfInBounds_toArray, List.set_cons_zero, List.set_cons_succ]
    refine wpAnyH_ready (rs := [16]) (by kernel_rfl) (by simp) ?_
    refine AllReadyH.cons (o := { dst := some 33, op := Go.Op.call { callee := Go.Callee.value (Go.Operand.func 28), args := #[Go.Operand.tmp 32], argTypes := #[32] }, type := 9, pos := "order.go:171", after := #[{ on := 15, ground := Go.Ground.data }, { on := 6, ground := Go.Ground.chain }], guard := none }) rfl (fun K hK => ?_) AllReadyH.nil
    rw [if_pos (by kernel_rfl)]
    go_simp
    refine ((HSy _).out).mono ?_
    rintro e v2 ⟨rfl, u2⟩
    dsimp only
    refine hK.out _ _ ⟨rng_up hS1.1 u2, rng_up hS1.2.1 u2, hS1.2.2.trans u2⟩ (fun hS2 => ?_)
    clear hK hS1 u2
    refine wpAnyH_take (i := 17) (oi := { dst := some 34, op := Go.Op.binOp Go.BinOp.add 9 (Go.Operand.tmp 31) (Go.Operand.tmp 33) 9, type := 9, pos := "order.go:171", after := #[{ on := 14, ground := Go.Ground.data }, { on := 16, ground := Go.Ground.data }], guard := none }) (v := .string (p ++ ⟨#[32]⟩ ++ v ++ ⟨#[32]⟩ ++ sx ++ ⟨#[10]⟩ ++ p ++ ⟨#[32]⟩ ++ v ++ ⟨#[47, 103, 111, 46, 109, 111, 100, 32]⟩ ++ sy)) rfl (by kernel_rfl) (by kernel_rfl) (by kernel_rfl) (fun _ _ _ h => h) (Or.inl ⟨by kernel_rfl, ?_⟩) hS2 ?_
    · intro w5 hSw
      go_simp
    simp only [Act.put, List.setIfInBounds_toArray, List.set_cons_zero, List.set_cons_succ]
    refine wpAnyH_take (i := 18) (oi := { dst := some 35, op := Go.Op.binOp Go.BinOp.add 9 (Go.Operand.tmp 34) (Go.Operand.const (Go.Value.string { data := #[10] })) 9, type := 9, pos := "order.go:171", after := #[{ on := 17, ground := Go.Ground.data }], guard := none }) (v := .string (p ++ ⟨#[32]⟩ ++ v ++ ⟨#[32]⟩ ++ sx ++ ⟨#[10]⟩ ++ p ++ ⟨#[32]⟩ ++ v ++ ⟨#[47, 103, 111, 46, 109, 111, 100, 32]⟩ ++ sy ++ ⟨#[10]⟩)) rfl (by kernel_rfl) (by kernel_rfl) (by kernel_rfl) (fun _ _ _ h => h) (Or.inl ⟨by kernel_rfl, ?_⟩) hS2 ?_
    · intro w5 hSw
      go_simp
    simp only [Act.put, List.setIfInBounds_toArray, List.set_cons_zero, List.set_cons_succ]
    refine wpAnyH_ready (rs := [19]) (by kernel_rfl) (by simp) ?_
    refine AllReadyH.cons (o := { dst := some 8, op := Go.Op.assign (Go.Operand.tmp 35), type := 9, pos := "order.go:171", after := #[{ on := 18, ground := Go.Ground.data }, { on := 16, ground := Go.Ground.chain }, { on := 0, ground := Go.Ground.phase }, { on := 1, ground := Go.Ground.phase }, { on := 2, ground := Go.Ground.phase }, { on := 3, ground := Go.Ground.phase }, { on := 4, ground := Go.Ground.phase }, { on := 5, ground := Go.Ground.phase }, { on := 6, ground := Go.Ground.phase }, { on := 7, ground := Go.Ground.phase }, { on := 8, ground := Go.Ground.phase }, { on := 9, ground := Go.Ground.phase }, { on := 10, ground := Go.Ground.phase }, { on := 11, ground := Go.Ground.phase }, { on := 12, ground := Go.Ground.phase }, { on := 13, ground := Go.Ground.phase }, { on := 14, ground := Go.Ground.phase }, { on := 15, ground := Go.Ground.phase }, { on := 16, ground := Go.Ground.phase }, { on := 17, ground := Go.Ground.phase }, { on := 18, ground := Go.Ground.phase }], guard := none }) rfl (fun K hK => ?_) AllReadyH.nil
    rw [if_pos (by kernel_rfl)]
    go_simp
    refine hK.out _ _ hS2 (fun hS3 => ?_)
    clear hK hS2
    refine wpAnyH_ready (rs := [20]) (by kernel_rfl) (by simp) ?_
    refine AllReadyH.cons (o := { dst := some 9, op := Go.Op.assign (Go.Operand.const (Go.Value.int Go.IntKind.i64 0)), type := 3, pos := "order.go:171", after := #[{ on := 19, ground := Go.Ground.chain }, { on := 0, ground := Go.Ground.phase }, { on := 1, ground := Go.Ground.phase }, { on := 2, ground := Go.Ground.phase }, { on := 3, ground := Go.Ground.phase }, { on := 4, ground := Go.Ground.phase }, { on := 5, ground := Go.Ground.phase }, { on := 6, ground := Go.Ground.phase }, { on := 7, ground := Go.Ground.phase }, { on := 8, ground := Go.Ground.phase }, { on := 9, ground := Go.Ground.phase }, { on := 10, ground := Go.Ground.phase }, { on := 11, ground := Go.Ground.phase }, { on := 12, ground := Go.Ground.phase }, { on := 13, ground := Go.Ground.phase }, { on := 14, ground := Go.Ground.phase }, { on := 15, ground := Go.Ground.phase }, { on := 16, ground := Go.Ground.phase }, { on := 17, ground := Go.Ground.phase }, { on := 18, ground := Go.Ground.phase }, { on := 19, ground := Go.Ground.phase }], guard := none }) rfl (fun K hK => ?_) AllReadyH.nil
    rw [if_pos (by kernel_rfl)]
    go_simp
    refine hK.out _ _ hS3 (fun hS4 => ?_)
    clear hK hS3
    refine wpAnyH_done (by kernel_rfl) ?_ _
    have HSZ := Hid.of hS4
    clear hS4
    go_wp2_with fail
    go_ret2
    refine ⟨?_, HSZ.out.2.2⟩
    have e : (p ++ ⟨#[32]⟩ ++ v ++ ⟨#[32]⟩ ++ sx ++ ⟨#[10]⟩ ++ p ++ ⟨#[32]⟩ ++ v ++ ⟨#[47, 103, 111, 46, 109, 111, 100, 32]⟩ ++ sy ++ ⟨#[10]⟩ : ByteArray) = ⟨(recT p.data.toList v.data.toList x y).toArray⟩ := by
      rw [HR2.out]
      simp only [ba_app]
    rw [show vs (recT p.data.toList v.data.toList x y) = .string (p ++ ⟨#[32]⟩ ++ v ++ ⟨#[32]⟩ ++ sx ++ ⟨#[10]⟩ ++ p ++ ⟨#[32]⟩ ++ v ++ ⟨#[47, 103, 111, 46, 109, 111, 100, 32]⟩ ++ sy ++ ⟨#[10]⟩) from congrArg Value.string e.symm, H0.out.1]
    rfl
  · have h0z : (fte p.data.toList v.data.toList != 0) = true := by rw [bne_iff_ne]; exact h0
    have HR2 := Hid.of (show recT p.data.toList v.data.toList x y = [] from if_neg h0)
    generalize hfe : fte p.data.toList v.data.toList = fe at *
    have HFE := Hid.of (And.intro hfe trivial)
    clear h0 hfe
    go_wp2
    go_ret2
    refine ⟨?_, HU2.out⟩
    rw [show vs (recT p.data.toList v.data.toList x y) = .string ⟨(recT p.data.toList v.data.toList x y).toArray⟩ from rfl, HR2.out, HFE.out.1]
    rfl
end Go.Proofs.YtfopojnljfpmkaaGreatDoor
namespace Go.Proofs.YtfopojnljfpmkaaGreatDoor
open Go.RowKit Go.Shelf TextNum ModNum
theorem known_fte : fte [97, 46, 99, 111, 109, 47, 98] [118, 49, 46, 50, 46, 51] = 0 := by decide +kernel
theorem known_key : keyT [97, 46, 99, 111, 109, 47, 98] [118, 49, 46, 50, 46, 51] = [97, 46, 99, 111, 109, 47, 98, 64, 118, 49, 46, 50, 46, 51] := by decide +kernel
theorem known_cmp : cmpV [118, 49, 46, 50, 46, 51] [118, 49, 46, 49, 48, 46, 48] = -1 := by decide +kernel
set_option maxRecDepth 100000 in
theorem known_walk (w : World) (hG : GR w) : Calls Tryz.prog 9 #[] w fun e w' => e = .returned (.bool true) ∧ Up w w' := by
  have HK := Hid.of (Key_walk ⟨#[97, 46, 99, 111, 109, 47, 98]⟩ ⟨#[118, 49, 46, 50, 46, 51]⟩ w hG)
  have HC := fun w' => fun (u : Up w w') => Hid.of (Compare_walk ⟨#[118, 49, 46, 50, 46, 51]⟩ ⟨#[118, 49, 46, 49, 48, 46, 48]⟩ w' (hG.up u).toGM)
  rw [show (⟨#[97, 46, 99, 111, 109, 47, 98]⟩ : ByteArray).data.toList = [97, 46, 99, 111, 109, 47, 98] from rfl, show (⟨#[118, 49, 46, 50, 46, 51]⟩ : ByteArray).data.toList = [118, 49, 46, 50, 46, 51] from rfl, known_fte, known_key] at HK
  rw [show (⟨#[118, 49, 46, 50, 46, 51]⟩ : ByteArray).data.toList = [118, 49, 46, 50, 46, 51] from rfl, show (⟨#[118, 49, 46, 49, 48, 46, 48]⟩ : ByteArray).data.toList = [118, 49, 46, 49, 48, 46, 48] from rfl, known_cmp] at HC
  clear hG
  go_enter Tryz.func9, Tryz.ntmps9
  go_wp2_with fail
  refine (HK.out).mono ?_
  rintro e w1 ⟨rfl, u1⟩
  have H1 := Hid.of (u1)
  have Hu1 := Hid.of u1
  clear u1
  dsimp only
  go_wp2_with fail
  refine ((HC _ H1.out).out).mono ?_
  rintro e w2 ⟨rfl, u2⟩
  have H2 := Hid.of (H1.out.trans u2)
  have Hu2 := Hid.of u2
  clear u2
  dsimp only
  go_wp2
  go_ret
  exact ⟨rfl, H2.out⟩
/-- an Op in its cells -/
def opc (k : Int) (s u : ByteArray) (a b : List UInt8) (l : Value) : List Value := .int .i64 k :: .string s :: .string u :: (cb a ++ (cb b ++ [l]))
structure OpA (w : World) (g : Nat) (k : Int) (s u : ByteArray) (a b : List UInt8) (l : Value) : Prop where
  c0 : w.cell? ⟨g, 0, none⟩ = some (.int .i64 k)
  c1 : w.cell? ⟨g, 1, none⟩ = some (.string s)
  c2 : w.cell? ⟨g, 2, none⟩ = some (.string u)
  ra : w.rangeAt g 3 (cb a)
  rb : w.rangeAt g 35 (cb b)
  cl : w.cell? ⟨g, 67, none⟩ = some l
theorem OpA.up {w w' : World} {g : Nat} {k : Int} {s u : ByteArray} {a b : List UInt8} {l : Value} (h : OpA w g k s u a b l) (q : Up w w') : OpA w' g k s u a b l :=
  ⟨q.cell h.c0, q.cell h.c1, q.cell h.c2, rng_up h.ra q, rng_up h.rb q, q.cell h.cl⟩
theorem opA_new (w : World) (k : Int) (s u : ByteArray) (a b : List UInt8) (l : Value) (ha : a.length = 32) (hb : b.length = 32) : OpA (w.alloc (.cells (opc k s u a b l).toArray 36)) w.heap.size k s u a b l := by
  have h := at_new w 36 (opc k s u a b l)
  have la : (cb a).length = 32 := by rw [cb_length, ha]
  have lb : (cb b).length = 32 := by rw [cb_length, hb]
  have hj3 : ∀ j v, (cb a)[j]? = some v → (opc k s u a b l)[3 + j]? = some v := fun j v hv => by
    have hj : j < (cb a).length := (List.getElem?_eq_some_iff.1 hv).1
    unfold opc
    rw [show 3 + j = j + 1 + 1 + 1 by omega, List.getElem?_cons_succ, List.getElem?_cons_succ, List.getElem?_cons_succ, List.getElem?_append_left hj]
    exact hv
  have hj35 : ∀ j v, (cb b)[j]? = some v → (opc k s u a b l)[35 + j]? = some v := fun j v hv => by
    have hj : j < (cb b).length := (List.getElem?_eq_some_iff.1 hv).1
    unfold opc
    rw [show 35 + j = (32 + j) + 1 + 1 + 1 by omega, List.getElem?_cons_succ, List.getElem?_cons_succ, List.getElem?_cons_succ, List.getElem?_append_right (by omega), la, show 32 + j - 32 = j by omega, List.getElem?_append_left hj]
    exact hv
  refine ⟨h.cell (i := 0) rfl, h.cell (i := 1) rfl, h.cell (i := 2) rfl, fun j v hv => h.cell (hj3 j v hv), fun j v hv => h.cell (hj35 j v hv), h.cell ?_⟩
  unfold opc
  rw [show 67 = 64 + 1 + 1 + 1 from rfl, List.getElem?_cons_succ, List.getElem?_cons_succ, List.getElem?_cons_succ, List.getElem?_append_right (by omega), la, List.getElem?_append_right (by omega), lb]
  rfl
theorem tl_eq (q : ByteArray) : (q.toList == q.toList) = true := beq_self_eq_true _
set_option maxRecDepth 100000 in
set_option maxHeartbeats 1000000 in
theorem rec_k7 (s u : ByteArray) (a b : List UInt8) (l : Value) (ha : a.length = 32) (hb : b.length = 32) (w : World) (hG : GR w) (hT : TK w) : Calls Tryz.prog 13 #[.agg (opc 7 s u a b l).toArray] w fun e w' => e = .returned (.bool true) ∧ Up w w' := by
  have HO := Hid.of (opA_new w 7 s u a b l ha hb)
  have HU := Hid.of ((Up.refl w).alloc (.cells (opc 7 s u a b l).toArray 36))
  obtain ⟨q, hq1, hq2⟩ := ba_ex (keyT s.data.toList u.data.toList)
  have HR := fun w' => fun (k : Up w w') => Hid.of (RKey_walk s u w' (hT.up k))
  have HP := fun w' => fun (k : Up w w') => Hid.of (Key_walk s u w' (hG.up k))
  rw [hq2] at HR HP
  have hqq := tl_eq q
  generalize fte s.data.toList u.data.toList = f at *
  clear hG hT hq1 hq2
  go_enter Tryz.func13, Tryz.ntmps13
  generalize hW0 : w.alloc (.cells (opc 7 s u a b l).toArray 36) = W0 at *
  have k0 := HO.out.c0
  have k1 := HO.out.c1
  have k2 := HO.out.c2
  generalize hg : w.heap.size = g at *
  go_wp2_with fail
  refine (HR _ HU.out).out.mono ?_
  rintro e w1 ⟨rfl, u1⟩
  have H1 := Hid.of (HU.out.trans u1)
  have j1 := u1.cell k1
  have j2 := u1.cell k2
  clear u1 k0 k1 k2
  dsimp only
  go_wp2_with fail
  refine (HP _ H1.out).out.mono ?_
  rintro e w2 ⟨rfl, u2⟩
  have H2 := Hid.of (H1.out.trans u2)
  clear u2
  dsimp only
  go_wp2
  go_ret
  exact ⟨rfl, H2.out⟩
set_option maxRecDepth 100000 in
set_option maxHeartbeats 1000000 in
theorem rec_k13 (s u : ByteArray) (a b : List UInt8) (l : Value) (ha : a.length = 32) (hb : b.length = 32) (w : World) (hG : GR w) (hL : TabL w) (hT : TK w) : Calls Tryz.prog 13 #[.agg (opc 13 s u a b l).toArray] w fun e w' => e = .returned (.bool true) ∧ Up w w' := by
  have HO := Hid.of (opA_new w 13 s u a b l ha hb)
  have HU := Hid.of ((Up.refl w).alloc (.cells (opc 13 s u a b l).toArray 36))
  obtain ⟨q, hq1, hq2⟩ := ba_ex (recT s.data.toList u.data.toList a b)
  have HR := fun w' => fun (k : Up w w') => Hid.of (RRecord_walk s u a b ha hb w' (hT.up k))
  have HP := fun w' => fun (k : Up w w') => Hid.of (Record_walk s u a b ha hb w' (hG.up k) (hL.below hL.lt k))
  rw [show vs (recT s.data.toList u.data.toList a b) = .string q from congrArg Value.string hq2] at HR HP
  have hqq := tl_eq q
  have ix := i32 ha
  have iy := i32 hb
  generalize fte s.data.toList u.data.toList = f at *
  clear hG hT hL hq1 hq2 ha hb
  go_enter Tryz.func13, Tryz.ntmps13
  generalize hW0 : w.alloc (.cells (opc 13 s u a b l).toArray 36) = W0 at *
  have k0 := HO.out.c0
  have k1 := HO.out.c1
  have k2 := HO.out.c2
  generalize hg : w.heap.size = g at *
  go_wp2_with (with_reducible show wpList _ _ _ ({ dst := _, op := Op.load 32 _, type := _, pos := _, after := _, guard := _ } :: _) _ _; refine Shut.out ?_)
  show wpList _ _ _ _ _ _
  refine wpList_load_mid rfl _ _ rfl g 3 rfl (cb a) _ HO.out.ra Tryz.underlying32 rfl ix ?_
  simp only [Act.put, List.setIfInBounds_toArray, List.set_cons_zero, List.set_cons_succ]
  go_wp2_with (with_reducible show wpList _ _ _ ({ dst := _, op := Op.load 32 _, type := _, pos := _, after := _, guard := _ } :: _) _ _; refine Shut.out ?_)
  show wpList _ _ _ _ _ _
  refine wpList_load_mid rfl _ _ rfl g 35 rfl (cb b) _ HO.out.rb Tryz.underlying32 rfl iy ?_
  simp only [Act.put, List.setIfInBounds_toArray, List.set_cons_zero, List.set_cons_succ]
  go_wp2_with fail
  refine (HR _ HU.out).out.mono ?_
  rintro e w1 ⟨rfl, u1⟩
  have H1 := Hid.of (HU.out.trans u1)
  have HO1 := Hid.of (HO.out.up u1)
  have j1 := u1.cell k1
  have j2 := u1.cell k2
  clear u1 k0 k1 k2
  dsimp only
  go_wp2_with (with_reducible show wpList _ _ _ ({ dst := _, op := Op.load 32 _, type := _, pos := _, after := _, guard := _ } :: _) _ _; refine Shut.out ?_)
  show wpList _ _ _ _ _ _
  refine wpList_load_mid rfl _ _ rfl g 3 rfl (cb a) _ HO1.out.ra Tryz.underlying32 rfl ix ?_
  simp only [Act.put, List.setIfInBounds_toArray, List.set_cons_zero, List.set_cons_succ]
  go_wp2_with (with_reducible show wpList _ _ _ ({ dst := _, op := Op.load 32 _, type := _, pos := _, after := _, guard := _ } :: _) _ _; refine Shut.out ?_)
  show wpList _ _ _ _ _ _
  refine wpList_load_mid rfl _ _ rfl g 35 rfl (cb b) _ HO1.out.rb Tryz.underlying32 rfl iy ?_
  simp only [Act.put, List.setIfInBounds_toArray, List.set_cons_zero, List.set_cons_succ]
  go_wp2_with fail
  refine (HP _ H1.out).out.mono ?_
  rintro e w2 ⟨rfl, u2⟩
  have H2 := Hid.of (H1.out.trans u2)
  clear u2
  dsimp only
  go_wp2
  go_ret
  exact ⟨rfl, H2.out⟩
set_option maxRecDepth 100000 in
theorem built_op (k : Int) (s u : ByteArray) : ∀ (a b : List UInt8), a.length = 32 → b.length = 32 → Tryz.prog.built 36 [(0, .int .i64 k), (1, .string s), (2, .string u), (3, .agg (cb a).toArray), (4, .agg (cb b).toArray)] = some (opc k s u a b (.slice none 0 0)).toArray
  | [a0, a1, a2, a3, a4, a5, a6, a7, a8, a9, a10, a11, a12, a13, a14, a15, a16, a17, a18, a19, a20, a21, a22, a23, a24, a25, a26, a27, a28, a29, a30, a31], [b0, b1, b2, b3, b4, b5, b6, b7, b8, b9, b10, b11, b12, b13, b14, b15, b16, b17, b18, b19, b20, b21, b22, b23, b24, b25, b26, b27, b28, b29, b30, b31], _, _ => by kernel_rfl
theorem wpList_buildOp {ops : Array Oper} {rest : List Oper} {o : Oper} {a : Act} {w : World} {Q : Exit → Act → World → Prop} (hg : o.guard = none) (parts : Array (Nat × Operand)) (ho : o.op = .build 36 parts) (l : List (Nat × Value)) (hl : (parts.map fun (i, x) => (i, a.eval x)).toList = l) (cs : Array Value) (hb : Tryz.prog.built 36 l = some cs)
    (h : wpList Tryz.prog ops Q rest (a.put o.dst (.agg cs)) w) : wpList Tryz.prog ops Q (o :: rest) a w :=
  wpList_build hg _ _ ho (by rw [hl, hb]; rfl) (by rw [hl, hb]; exact h)
set_option maxRecDepth 100000 in
set_option maxHeartbeats 1000000 in
theorem fits_law (s u : ByteArray) (a b : List UInt8) (ha : a.length = 32) (hb : b.length = 32) (w : World) (hG : GR w) (hL : TabL w) (hT : TK w) : Calls Tryz.prog 4 #[.string s, .string u, .agg (cb a ++ cb b).toArray] w fun e w' => e = .returned (.bool true) ∧ Up w w' := by
  have HK := fun w' => fun (k : Up w w') => Hid.of (known_walk w' (hG.up k))
  have H7 := fun w' => fun (k : Up w w') => Hid.of (rec_k7 s u a b (.slice none 0 0) ha hb w' (hG.up k) (hT.up k))
  have H13 := fun w' => fun (k : Up w w') => Hid.of (rec_k13 s u a b (.slice none 0 0) ha hb w' (hG.up k) (hL.below hL.lt k) (hT.up k))
  have hA := at_new w 33 (cb a ++ cb b)
  have hra : (w.alloc (.cells (cb a ++ cb b).toArray 33)).rangeAt w.heap.size 0 (cb a) := fun j v hv => hA.cell (by
    rw [Nat.zero_add, List.getElem?_append_left (List.getElem?_eq_some_iff.1 hv).1]
    exact hv)
  have hrb : (w.alloc (.cells (cb a ++ cb b).toArray 33)).rangeAt w.heap.size 32 (cb b) := fun j v hv => hA.cell (by
    rw [List.getElem?_append_right (by rw [cb_length, ha]; omega), cb_length, ha, show 32 + j - 32 = j by omega]
    exact hv)
  have HRA := Hid.of hra
  have HRB := Hid.of hrb
  have HU := Hid.of ((Up.refl w).alloc (.cells (cb a ++ cb b).toArray 33))
  have ix := i32 ha
  have iy := i32 hb
  have HAB := Hid.of (And.intro ha hb)
  clear hG hT hL hA hra hrb ha hb
  go_enter Tryz.func4, Tryz.ntmps4
  go_wp2
  generalize hW0 : w.alloc (.cells (cb a ++ cb b).toArray 33) = W0 at *
  generalize hg : w.heap.size = g at *
  go_loopw [7] (fun v7 wr => ∃ i : Nat, v7 = .int .i64 (i : Int) ∧ 7 ≤ i ∧ i ≤ 14 ∧ Hid (Up W0 wr)) (fun v7 _ => 14 - (intOf v7).toNat)
  case atStart => exact ⟨7, rfl, by omega, by omega, Up.refl _⟩
  case round =>
    obtain ⟨i, rfl, h7, h14, hI⟩ := hrel
    by_cases hlt : i ≤ 13
    · have hltz : (i : Int) ≤ 13 := by omega
      by_cases e7 : i = 7
      · subst e7
        have HBD := Hid.of (built_op 7 s u a b HAB.out.1 HAB.out.2)
        go_wp2_with (with_reducible show wpList _ _ _ ({ dst := _, op := Op.load 32 _, type := _, pos := _, after := _, guard := _ } :: _) _ _; refine Shut.out ?_)
        show wpList _ _ _ _ _ _
        refine wpList_load_mid rfl _ _ rfl g 0 rfl (cb a) _ (rng_up HRA.out hI.out) Tryz.underlying32 rfl ix ?_
        simp only [Act.put, List.setIfInBounds_toArray, List.set_cons_zero, List.set_cons_succ]
        go_wp2_with (with_reducible show wpList _ _ _ ({ dst := _, op := Op.load 32 _, type := _, pos := _, after := _, guard := _ } :: _) _ _; refine Shut.out ?_)
        show wpList _ _ _ _ _ _
        refine wpList_load_mid rfl _ _ rfl g 32 rfl (cb b) _ (rng_up HRB.out hI.out) Tryz.underlying32 rfl iy ?_
        simp only [Act.put, List.setIfInBounds_toArray, List.set_cons_zero, List.set_cons_succ]
        go_wp2_with (with_reducible show wpList _ _ _ ({ dst := _, op := Op.build 36 _, type := _, pos := _, after := _, guard := _ } :: _) _ _; refine Shut.out ?_)
        show wpList _ _ _ _ _ _
        refine wpList_buildOp rfl _ rfl [(0, .int .i64 7), (1, .string s), (2, .string u), (3, .agg (cb a).toArray), (4, .agg (cb b).toArray)] (by simp only [List.map_toArray, List.map_cons, List.map_nil]; rfl) _ HBD.out ?_
        simp only [Act.put, List.setIfInBounds_toArray, List.set_cons_zero, List.set_cons_succ]
        go_wp2_with fail
        refine (H7 _ (HU.out.trans hI.out)).out.mono ?_
        rintro e w1 ⟨rfl, u1⟩
        have H1 := Hid.of (hI.out.trans u1)
        clear u1 HBD
        dsimp only
        go_wp2
        go_roundw
        case rel => exact ⟨8, by go_num, by omega, by omega, H1.out⟩
        case measure => simp [intOf]
      · by_cases e13 : i = 13
        · subst e13
          have HBD := Hid.of (built_op 13 s u a b HAB.out.1 HAB.out.2)
          go_wp2_with (with_reducible show wpList _ _ _ ({ dst := _, op := Op.load 32 _, type := _, pos := _, after := _, guard := _ } :: _) _ _; refine Shut.out ?_)
          show wpList _ _ _ _ _ _
          refine wpList_load_mid rfl _ _ rfl g 0 rfl (cb a) _ (rng_up HRA.out hI.out) Tryz.underlying32 rfl ix ?_
          simp only [Act.put, List.setIfInBounds_toArray, List.set_cons_zero, List.set_cons_succ]
          go_wp2_with (with_reducible show wpList _ _ _ ({ dst := _, op := Op.load 32 _, type := _, pos := _, after := _, guard := _ } :: _) _ _; refine Shut.out ?_)
          show wpList _ _ _ _ _ _
          refine wpList_load_mid rfl _ _ rfl g 32 rfl (cb b) _ (rng_up HRB.out hI.out) Tryz.underlying32 rfl iy ?_
          simp only [Act.put, List.setIfInBounds_toArray, List.set_cons_zero, List.set_cons_succ]
          go_wp2_with (with_reducible show wpList _ _ _ ({ dst := _, op := Op.build 36 _, type := _, pos := _, after := _, guard := _ } :: _) _ _; refine Shut.out ?_)
          show wpList _ _ _ _ _ _
          refine wpList_buildOp rfl _ rfl [(0, .int .i64 13), (1, .string s), (2, .string u), (3, .agg (cb a).toArray), (4, .agg (cb b).toArray)] (by simp only [List.map_toArray, List.map_cons, List.map_nil]; rfl) _ HBD.out ?_
          simp only [Act.put, List.setIfInBounds_toArray, List.set_cons_zero, List.set_cons_succ]
          go_wp2_with fail
          refine (H13 _ (HU.out.trans hI.out)).out.mono ?_
          rintro e w1 ⟨rfl, u1⟩
          have H1 := Hid.of (hI.out.trans u1)
          clear u1 HBD
          dsimp only
          go_wp2
          go_roundw
          case rel => exact ⟨14, by go_num, by omega, by omega, H1.out⟩
          case measure => simp [intOf]
        · have z7 : ((i : Int) == 7) = false := by simp; omega
          have z13 : ((i : Int) == 13) = false := by simp; omega
          clear e7 e13
          go_wp2
          go_roundw
          case rel => exact ⟨i + 1, by go_num, by omega, by omega, hI.out⟩
          case measure => simp [intOf]; omega
    · have hltz : ¬ (i : Int) ≤ 13 := by omega
      go_wp2_with fail
      refine (HK _ (HU.out.trans hI.out)).out.mono ?_
      rintro e w1 ⟨rfl, u1⟩
      have H1 := Hid.of ((HU.out.trans hI.out).trans u1)
      clear u1
      dsimp only
      go_wp2
      go_ret
      exact ⟨rfl, H1.out⟩
end Go.Proofs.YtfopojnljfpmkaaGreatDoor
