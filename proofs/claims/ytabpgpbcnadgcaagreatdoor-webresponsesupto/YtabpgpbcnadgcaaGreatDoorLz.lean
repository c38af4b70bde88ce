import Derived.Test.YtabpgpbcnadgcaaGreatDoorLd
import Derived.Test.YtabpgpbcnadgcaaGreatDoorLc
import Derived.Test.YtabpgpbcnadgcaaGreatDoorLb
import Derived.Test.YtabpgpbcnadgcaaGreatDoorLe
import Derived.Test.YtabpgpbcnadgcaaGreatDoorLa
namespace Go.Proofs.YtabpgpbcnadgcaaGreatDoor
open Go.RowKit Go.Shelf TextNum
theorem results_tmp4 {fn : Func} {t u v x : Tmp} (h : fn.results = #[.tmp t, .tmp u, .tmp v, .tmp x]) (tmps : Array Value) (P : Program) (w : World) :
    (results fn tmps).run P w = .ok (.tuple #[tmps.getD t undef, tmps.getD u undef, tmps.getD v undef, tmps.getD x undef]) w := by
  simp [results, h]
/-- what is told of a response's first line -/
def slV (l : List UInt8) : Value := if sok l = true then .tuple #[.int .i64 (vrs (l.take 8)).1, .int .i64 (vrs (l.take 8)).2, .int .i64 (stn l : Int), .bool (decide (0 ≤ (vrs (l.take 8)).1))] else .tuple #[.int .i64 0, .int .i64 0, .int .i64 0, .bool false]
set_option maxRecDepth 100000 in
set_option maxHeartbeats 4000000 in
theorem RstatusLine_walk (s : ByteArray) (hs : s.size ≤ 1099511627776) (w : World) : Calls Tryz.prog 80 #[.string s] w fun e w' => e = .returned (slV s.data.toList) ∧ Up w w' := by
  have HS := Hid.of (Go.Lib.size_eq s)
  obtain ⟨rv, hrv⟩ : ∃ rv, slV s.data.toList = rv := ⟨_, rfl⟩
  have HR := Hid.of hrv
  rw [hrv]
  clear hrv
  have HNo := Hid.of (show sok s.data.toList = false → rv = .tuple #[.int .i64 0, .int .i64 0, .int .i64 0, .bool false] from fun h => by
    rw [← HR.out]
    unfold slV
    rw [h]
    rfl)
  by_cases h12 : s.size < 12
  · have h12z : (s.size : Int) < 12 := by omega
    have HE := Hid.of (HNo.out (by unfold sok; rw [decide_eq_false (by rw [← HS.out]; omega)]; rfl))
    go_enter Tryz.func80, Tryz.ntmps80
    go_wp2
    refine bodyPost_ret (results_tmp4 rfl _ _ _) rfl ?_
    rw [HE.out]
    exact ⟨rfl, Up.refl _⟩
  · have h12z : ¬ (s.size : Int) < 12 := by omega
    have hL12 : 12 ≤ s.data.toList.length := by rw [← HS.out]; omega
    have g : ∀ i (hi : i < s.data.toList.length), s.data.toList.getD i 0 = s.data.toList[i] := fun i hi => by rw [List.getD_eq_getElem?_getD, List.getElem?_eq_getElem hi]; rfl
    have HSk := Hid.of (show sok s.data.toList = (((s.data.toList[8]'(by omega)) == 32 && (isD (s.data.toList[9]'(by omega)) && (isD (s.data.toList[10]'(by omega)) && isD (s.data.toList[11]'(by omega))))) && (decide (s.data.toList.length = 12) || (s.data.toList.getD 12 0 == 32 && vlu (s.data.toList.drop 12)))) by
      unfold sok
      rw [decide_eq_true hL12, g 8 (by omega), g 9 (by omega), g 10 (by omega), g 11 (by omega)]
      simp)
    have HSn := Hid.of (show (isD (s.data.toList[9]'(by omega)) = true) → (isD (s.data.toList[10]'(by omega)) = true) → (isD (s.data.toList[11]'(by omega)) = true) → (stn s.data.toList : Int) = 100 * (((s.data.toList[9]'(by omega)).toNat : Int) - 48) + 10 * (((s.data.toList[10]'(by omega)).toNat : Int) - 48) + (((s.data.toList[11]'(by omega)).toNat : Int) - 48) from fun h1 h2 h3 => by
      unfold stn
      rw [g 9 (by omega), g 10 (by omega), g 11 (by omega)]
      have k1 := isD_nat h1
      have k2 := isD_nat h2
      have k3 := isD_nat h3
      omega)
    have hg8 := sget' s 8 (by omega)
    have hg9 := sget' s 9 (by omega)
    have hg10 := sget' s 10 (by omega)
    have hg11 := sget' s 11 (by omega)
    generalize s.data.toList[8]'(by omega) = x8 at *
    generalize s.data.toList[9]'(by omega) = x9 at *
    generalize s.data.toList[10]'(by omega) = x10 at *
    generalize s.data.toList[11]'(by omega) = x11 at *
    have HYes := Hid.of (show sok s.data.toList = true → rv = .tuple #[.int .i64 (vrs (s.data.toList.take 8)).1, .int .i64 (vrs (s.data.toList.take 8)).2, .int .i64 (stn s.data.toList : Int), .bool (decide (0 ≤ (vrs (s.data.toList.take 8)).1))] from fun h => by
      rw [← HR.out]
      unfold slV
      rw [h]
      rfl)
    have HVr := Hid.of (show ∀ w, Calls Tryz.prog 75 #[.string (s.extract 0 8)] w fun e w' => e = .returned (.tuple #[.int .i64 (vrs (s.data.toList.take 8)).1, .int .i64 (vrs (s.data.toList.take 8)).2]) ∧ Up w w' from fun w => by
      have h := Rversion_walk (s.extract 0 8) w
      rw [Go.Lib.extract_from_zero] at h
      exact h)
    generalize vrs (s.data.toList.take 8) = vv at *
    clear HR g hL12
    by_cases h8 : x8 = 32
    · subst h8
      go_enter Tryz.func80, Tryz.ntmps80
      go_wp2_with fail
      refine (Rdigit_walk x9 w).mono ?_
      rintro e w9 ⟨rfl, h9⟩
      obtain rfl := h9.symm
      clear h9
      dsimp only
      cases h9 : isD x9 with
      | false =>
        have HE := Hid.of (HNo.out (by rw [HSk.out, h9]; simp))
        go_wp2
        refine bodyPost_ret (results_tmp4 rfl _ _ _) rfl ?_
        rw [HE.out]
        exact ⟨rfl, Up.refl _⟩
      | true =>
        go_wp2_with fail
        refine (Rdigit_walk x10 w).mono ?_
        rintro e w9 ⟨rfl, h9⟩
        obtain rfl := h9.symm
        clear h9
        dsimp only
        cases h10 : isD x10 with
        | false =>
          have HE := Hid.of (HNo.out (by rw [HSk.out, h10]; simp))
          go_wp2
          refine bodyPost_ret (results_tmp4 rfl _ _ _) rfl ?_
          rw [HE.out]
          exact ⟨rfl, Up.refl _⟩
        | true =>
          go_wp2_with fail
          refine (Rdigit_walk x11 w).mono ?_
          rintro e w9 ⟨rfl, h9⟩
          obtain rfl := h9.symm
          clear h9
          dsimp only
          cases h11 : isD x11 with
          | false =>
            have HE := Hid.of (HNo.out (by rw [HSk.out, h11]; simp))
            go_wp2
            refine bodyPost_ret (results_tmp4 rfl _ _ _) rfl ?_
            rw [HE.out]
            exact ⟨rfl, Up.refl _⟩
          | true =>
            have k9 := isD_nat h9
            have k10 := isD_nat h10
            have k11 := isD_nat h11
            have HSt := Hid.of (HSn.out h9 h10 h11)
            have hwa9 : IntKind.u8.wrap ((x9.toNat : Int) - 48) = (x9.toNat : Int) - 48 := wrapu8 _ (by omega) (by omega)
            have hwb9 : IntKind.i64.wrap ((x9.toNat : Int) - 48) = (x9.toNat : Int) - 48 := wrapk _ (by omega) (by omega)
            have hwa10 : IntKind.u8.wrap ((x10.toNat : Int) - 48) = (x10.toNat : Int) - 48 := wrapu8 _ (by omega) (by omega)
            have hwb10 : IntKind.i64.wrap ((x10.toNat : Int) - 48) = (x10.toNat : Int) - 48 := wrapk _ (by omega) (by omega)
            have hwa11 : IntKind.u8.wrap ((x11.toNat : Int) - 48) = (x11.toNat : Int) - 48 := wrapu8 _ (by omega) (by omega)
            have hwb11 : IntKind.i64.wrap ((x11.toNat : Int) - 48) = (x11.toNat : Int) - 48 := wrapk _ (by omega) (by omega)
            have hwc : IntKind.i64.wrap (100 * ((x9.toNat : Int) - 48)) = (100 * ((x9.toNat : Int) - 48)) := wrapk _ (by omega) (by omega)
            have hwd : IntKind.i64.wrap (10 * ((x10.toNat : Int) - 48)) = (10 * ((x10.toNat : Int) - 48)) := wrapk _ (by omega) (by omega)
            have hwe : IntKind.i64.wrap ((100 * ((x9.toNat : Int) - 48)) + (10 * ((x10.toNat : Int) - 48))) = ((100 * ((x9.toNat : Int) - 48)) + (10 * ((x10.toNat : Int) - 48))) := wrapk _ (by omega) (by omega)
            have hwf : IntKind.i64.wrap (((100 * ((x9.toNat : Int) - 48)) + (10 * ((x10.toNat : Int) - 48))) + ((x11.toNat : Int) - 48)) = (((100 * ((x9.toNat : Int) - 48)) + (10 * ((x10.toNat : Int) - 48))) + ((x11.toNat : Int) - 48)) := wrapk _ (by omega) (by omega)
            have q9 : ¬ (s.size : Int) ≤ 9 := by omega
            have q10 : ¬ (s.size : Int) ≤ 10 := by omega
            have q11 : ¬ (s.size : Int) ≤ 11 := by omega
            by_cases hgt : 12 < s.size
            · have hgtz : (12 : Int) < (s.size : Int) := by omega
              have hL : 12 < s.data.toList.length := by rw [← HS.out]; exact hgt
              have hg12 := sget' s 12 hgt
              have HSk2 := Hid.of (show sok s.data.toList = ((s.data.toList[12]'hL) == 32 && vlu (s.data.toList.drop 12)) by
                rw [HSk.out, h9, h10, h11, decide_eq_false (show ¬ s.data.toList.length = 12 by omega), List.getD_eq_getElem?_getD, List.getElem?_eq_getElem hL]
                rfl)
              have HVl := Hid.of (show ∀ w, Calls Tryz.prog 95 #[.string (s.extract 12 s.size)] w fun e w' => e = .returned (.bool (vlu (s.data.toList.drop 12))) ∧ Up w w' from fun w => by
                have h := Rvalued_walk (s.extract 12 s.size) (by rw [ByteArray.size_extract]; omega) w
                rw [extr_drop] at h
                exact h)
              generalize s.data.toList[12]'hL = x12 at *
              clear hL
              generalize hvl : vlu (s.data.toList.drop 12) = bv at *
              clear hvl
              by_cases h12' : x12 = 32
              · subst h12'
                go_wp2_with fail
                refine (HVl.out _).mono ?_
                rintro e w2 ⟨rfl, h9'⟩
                have HU2 := Hid.of h9'
                clear h9' HVl
                dsimp only
                cases bv with
                | false =>
                  have HE := Hid.of (HNo.out (by rw [HSk2.out]; simp))
                  go_wp2
                  refine bodyPost_ret (results_tmp4 rfl _ _ _) rfl ?_
                  rw [HE.out]
                  exact ⟨rfl, HU2.out⟩
                | true =>
                  have HE := Hid.of (HYes.out (by rw [HSk2.out]; rfl))
                  rw [HSt.out] at HE
                  go_wp2_with fail
                  refine (HVr.out _).mono ?_
                  rintro e w3 ⟨rfl, h9⟩
                  have HU3 := Hid.of (Up.trans HU2.out h9)
                  clear h9 HVr
                  dsimp only
                  obtain ⟨mj, hmj⟩ : ∃ mj, vv.1 = mj := ⟨_, rfl⟩
                  obtain ⟨mi, hmi⟩ : ∃ mi, vv.2 = mi := ⟨_, rfl⟩
                  rw [hmj, hmi]
                  rw [hmj, hmi] at HE
                  clear hmj hmi
                  go_wp2
                  refine wp_region_held_drew (S := fun w2 => Up w w2) (by kernel_rfl) HU3.out.drew (fun hS => ?_)
                  refine wpAnyH_take (i := 0) (oi := { dst := some 54, op := Go.Op.move (Go.Operand.tmp 6), type := 3, pos := "ref.go:381", after := #[], guard := none }) (v := .int .i64 mj) rfl (by kernel_rfl) (by kernel_rfl) (by kernel_rfl) (fun _ _ _ h => h) (Or.inl ⟨by kernel_rfl, ?_⟩) hS ?_
                  · intro w5 hSw
                    clear hSw hS
                    go_simp
                  simp only [Act.put, List.setIfInBounds_toArray, List.set_cons_zero, List.set_cons_succ]
                  refine wpAnyH_take (i := 1) (oi := { dst := some 55, op := Go.Op.move (Go.Operand.tmp 7), type := 3, pos := "ref.go:381", after := #[{ on := 20, ground := Go.Ground.gcOnly Go.Departure.lateStores }], guard := none }) (v := .int .i64 mi) rfl (by kernel_rfl) (by kernel_rfl) (by kernel_rfl) (fun _ _ _ h => h) (Or.inl ⟨by kernel_rfl, ?_⟩) hS ?_
                  · intro w5 hSw
                    clear hSw hS
                    go_simp
                  simp only [Act.put, List.setIfInBounds_toArray, List.set_cons_zero, List.set_cons_succ]
                  refine wpAnyH_take (i := 2) (oi := { dst := some 56, op := Go.Op.move (Go.Operand.tmp 0), type := 9, pos := "ref.go:381", after := #[{ on := 21, ground := Go.Ground.gcOnly Go.Departure.lateStores }], guard := none }) (v := .string s) rfl (by kernel_rfl) (by kernel_rfl) (by kernel_rfl) (fun _ _ _ h => h) (Or.inl ⟨by kernel_rfl, ?_⟩) hS ?_
                  · intro w5 hSw
                    clear hSw hS
                    go_simp
                  simp only [Act.put, List.setIfInBounds_toArray, List.set_cons_zero, List.set_cons_succ]
                  refine wpAnyH_take (i := 3) (oi := { dst := some 57, op := Go.Op.index 9 (Go.Operand.tmp 56) (Go.Operand.const (Go.Value.int Go.IntKind.i64 9)), type := 5, pos := "ref.go:381", after := #[{ on := 2, ground := Go.Ground.data }, { on := 21, ground := Go.Ground.gcOnly Go.Departure.lateStores }], guard := none }) (v := .int .u8 (x9.toNat : Int)) rfl (by kernel_rfl) (by kernel_rfl) (by kernel_rfl) (fun _ _ _ h => h) (Or.inl ⟨by kernel_rfl, ?_⟩) hS ?_
                  · intro w5 hSw
                    clear hSw hS
                    go_simp
                  simp only [Act.put, List.setIfInBounds_toArray, List.set_cons_zero, List.set_cons_succ]
                  refine wpAnyH_take (i := 4) (oi := { dst := some 58, op := Go.Op.binOp Go.BinOp.sub 5 (Go.Operand.tmp 57) (Go.Operand.const (Go.Value.int Go.IntKind.u8 48)) 5, type := 5, pos := "ref.go:381", after := #[{ on := 3, ground := Go.Ground.data }, { on := 21, ground := Go.Ground.gcOnly Go.Departure.lateStores }], guard := none }) (v := .int .u8 ((x9.toNat : Int) - 48)) rfl (by kernel_rfl) (by kernel_rfl) (by kernel_rfl) (fun _ _ _ h => h) (Or.inl ⟨by kernel_rfl, ?_⟩) hS ?_
                  · intro w5 hSw
                    clear hSw hS
                    go_simp
                  simp only [Act.put, List.setIfInBounds_toArray, List.set_cons_zero, List.set_cons_succ]
                  refine wpAnyH_take (i := 5) (oi := { dst := some 59, op := Go.Op.convert 5 3 (Go.Operand.tmp 58), type := 3, pos := "ref.go:381", after := #[{ on := 4, ground := Go.Ground.data }, { on := 21, ground := Go.Ground.gcOnly Go.Departure.lateStores }], guard := none }) (v := .int .i64 ((x9.toNat : Int) - 48)) rfl (by kernel_rfl) (by kernel_rfl) (by kernel_rfl) (fun _ _ _ h => h) (Or.inl ⟨by kernel_rfl, ?_⟩) hS ?_
                  · intro w5 hSw
                    clear hSw hS
                    go_simp
                  simp only [Act.put, List.setIfInBounds_toArray, List.set_cons_zero, List.set_cons_succ]
                  refine wpAnyH_take (i := 6) (oi := { dst := some 60, op := Go.Op.binOp Go.BinOp.mul 3 (Go.Operand.const (Go.Value.int Go.IntKind.i64 100)) (Go.Operand.tmp 59) 3, type := 3, pos := "ref.go:381", after := #[{ on := 5, ground := Go.Ground.data }, { on := 21, ground := Go.Ground.gcOnly Go.Departure.lateStores }], guard := none }) (v := .int .i64 (100 * ((x9.toNat : Int) - 48))) rfl (by kernel_rfl) (by kernel_rfl) (by kernel_rfl) (fun _ _ _ h => h) (Or.inl ⟨by kernel_rfl, ?_⟩) hS ?_
                  · intro w5 hSw
                    clear hSw hS
                    go_simp
                  simp only [Act.put, List.setIfInBounds_toArray, List.set_cons_zero, List.set_cons_succ]
                  refine wpAnyH_take (i := 7) (oi := { dst := some 61, op := Go.Op.move (Go.Operand.tmp 0), type := 9, pos := "ref.go:381", after := #[{ on := 21, ground := Go.Ground.gcOnly Go.Departure.lateStores }], guard := none }) (v := .string s) rfl (by kernel_rfl) (by kernel_rfl) (by kernel_rfl) (fun _ _ _ h => h) (Or.inl ⟨by kernel_rfl, ?_⟩) hS ?_
                  · intro w5 hSw
                    clear hSw hS
                    go_simp
                  simp only [Act.put, List.setIfInBounds_toArray, List.set_cons_zero, List.set_cons_succ]
                  refine wpAnyH_take (i := 8) (oi := { dst := some 62, op := Go.Op.index 9 (Go.Operand.tmp 61) (Go.Operand.const (Go.Value.int Go.IntKind.i64 10)), type := 5, pos := "ref.go:381", after := #[{ on := 7, ground := Go.Ground.data }, { on := 21, ground := Go.Ground.gcOnly Go.Departure.lateStores }], guard := none }) (v := .int .u8 (x10.toNat : Int)) rfl (by kernel_rfl) (by kernel_rfl) (by kernel_rfl) (fun _ _ _ h => h) (Or.inl ⟨by kernel_rfl, ?_⟩) hS ?_
                  · intro w5 hSw
                    clear hSw hS
                    go_simp
                  simp only [Act.put, List.setIfInBounds_toArray, List.set_cons_zero, List.set_cons_succ]
                  refine wpAnyH_take (i := 9) (oi := { dst := some 63, op := Go.Op.binOp Go.BinOp.sub 5 (Go.Operand.tmp 62) (Go.Operand.const (Go.Value.int Go.IntKind.u8 48)) 5, type := 5, pos := "ref.go:381", after := #[{ on := 8, ground := Go.Ground.data }, { on := 21, ground := Go.Ground.gcOnly Go.Departure.lateStores }], guard := none }) (v := .int .u8 ((x10.toNat : Int) - 48)) rfl (by kernel_rfl) (by kernel_rfl) (by kernel_rfl) (fun _ _ _ h => h) (Or.inl ⟨by kernel_rfl, ?_⟩) hS ?_
                  · intro w5 hSw
                    clear hSw hS
                    go_simp
                  simp only [Act.put, List.setIfInBounds_toArray, List.set_cons_zero, List.set_cons_succ]
                  refine wpAnyH_take (i := 10) (oi := { dst := some 64, op := Go.Op.convert 5 3 (Go.Operand.tmp 63), type := 3, pos := "ref.go:381", after := #[{ on := 9, ground := Go.Ground.data }, { on := 21, ground := Go.Ground.gcOnly Go.Departure.lateStores }], guard := none }) (v := .int .i64 ((x10.toNat : Int) - 48)) rfl (by kernel_rfl) (by kernel_rfl) (by kernel_rfl) (fun _ _ _ h => h) (Or.inl ⟨by kernel_rfl, ?_⟩) hS ?_
                  · intro w5 hSw
                    clear hSw hS
                    go_simp
                  simp only [Act.put, List.setIfInBounds_toArray, List.set_cons_zero, List.set_cons_succ]
                  refine wpAnyH_take (i := 11) (oi := { dst := some 65, op := Go.Op.binOp Go.BinOp.mul 3 (Go.Operand.const (Go.Value.int Go.IntKind.i64 10)) (Go.Operand.tmp 64) 3, type := 3, pos := "ref.go:381", after := #[{ on := 10, ground := Go.Ground.data }, { on := 21, ground := Go.Ground.gcOnly Go.Departure.lateStores }], guard := none }) (v := .int .i64 (10 * ((x10.toNat : Int) - 48))) rfl (by kernel_rfl) (by kernel_rfl) (by kernel_rfl) (fun _ _ _ h => h) (Or.inl ⟨by kernel_rfl, ?_⟩) hS ?_
                  · intro w5 hSw
                    clear hSw hS
                    go_simp
                  simp only [Act.put, List.setIfInBounds_toArray, List.set_cons_zero, List.set_cons_succ]
                  refine wpAnyH_take (i := 12) (oi := { dst := some 66, op := Go.Op.binOp Go.BinOp.add 3 (Go.Operand.tmp 60) (Go.Operand.tmp 65) 3, type := 3, pos := "ref.go:381", after := #[{ on := 6, ground := Go.Ground.data }, { on := 11, ground := Go.Ground.data }, { on := 21, ground := Go.Ground.gcOnly Go.Departure.lateStores }], guard := none }) (v := .int .i64 ((100 * ((x9.toNat : Int) - 48)) + (10 * ((x10.toNat : Int) - 48)))) rfl (by kernel_rfl) (by kernel_rfl) (by kernel_rfl) (fun _ _ _ h => h) (Or.inl ⟨by kernel_rfl, ?_⟩) hS ?_
                  · intro w5 hSw
                    clear hSw hS
                    go_simp
                  simp only [Act.put, List.setIfInBounds_toArray, List.set_cons_zero, List.set_cons_succ]
                  refine wpAnyH_take (i := 13) (oi := { dst := some 67, op := Go.Op.move (Go.Operand.tmp 0), type := 9, pos := "ref.go:381", after := #[{ on := 21, ground := Go.Ground.gcOnly Go.Departure.lateStores }], guard := none }) (v := .string s) rfl (by kernel_rfl) (by kernel_rfl) (by kernel_rfl) (fun _ _ _ h => h) (Or.inl ⟨by kernel_rfl, ?_⟩) hS ?_
                  · intro w5 hSw
                    clear hSw hS
                    go_simp
                  simp only [Act.put, List.setIfInBounds_toArray, List.set_cons_zero, List.set_cons_succ]
                  refine wpAnyH_take (i := 14) (oi := { dst := some 68, op := Go.Op.index 9 (Go.Operand.tmp 67) (Go.Operand.const (Go.Value.int Go.IntKind.i64 11)), type := 5, pos := "ref.go:381", after := #[{ on := 13, ground := Go.Ground.data }, { on := 21, ground := Go.Ground.gcOnly Go.Departure.lateStores }], guard := none }) (v := .int .u8 (x11.toNat : Int)) rfl (by kernel_rfl) (by kernel_rfl) (by kernel_rfl) (fun _ _ _ h => h) (Or.inl ⟨by kernel_rfl, ?_⟩) hS ?_
                  · intro w5 hSw
                    clear hSw hS
                    go_simp
                  simp only [Act.put, List.setIfInBounds_toArray, List.set_cons_zero, List.set_cons_succ]
                  refine wpAnyH_take (i := 15) (oi := { dst := some 69, op := Go.Op.binOp Go.BinOp.sub 5 (Go.Operand.tmp 68) (Go.Operand.const (Go.Value.int Go.IntKind.u8 48)) 5, type := 5, pos := "ref.go:381", after := #[{ on := 14, ground := Go.Ground.data }, { on := 21, ground := Go.Ground.gcOnly Go.Departure.lateStores }], guard := none }) (v := .int .u8 ((x11.toNat : Int) - 48)) rfl (by kernel_rfl) (by kernel_rfl) (by kernel_rfl) (fun _ _ _ h => h) (Or.inl ⟨by kernel_rfl, ?_⟩) hS ?_
                  · intro w5 hSw
                    clear hSw hS
                    go_simp
                  simp only [Act.put, List.setIfInBounds_toArray, List.set_cons_zero, List.set_cons_succ]
                  refine wpAnyH_take (i := 16) (oi := { dst := some 70, op := Go.Op.convert 5 3 (Go.Operand.tmp 69), type := 3, pos := "ref.go:381", after := #[{ on := 15, ground := Go.Ground.data }, { on := 21, ground := Go.Ground.gcOnly Go.Departure.lateStores }], guard := none }) (v := .int .i64 ((x11.toNat : Int) - 48)) rfl (by kernel_rfl) (by kernel_rfl) (by kernel_rfl) (fun _ _ _ h => h) (Or.inl ⟨by kernel_rfl, ?_⟩) hS ?_
                  · intro w5 hSw
                    clear hSw hS
                    go_simp
                  simp only [Act.put, List.setIfInBounds_toArray, List.set_cons_zero, List.set_cons_succ]
                  refine wpAnyH_take (i := 17) (oi := { dst := some 71, op := Go.Op.binOp Go.BinOp.add 3 (Go.Operand.tmp 66) (Go.Operand.tmp 70) 3, type := 3, pos := "ref.go:381", after := #[{ on := 12, ground := Go.Ground.data }, { on := 16, ground := Go.Ground.data }, { on := 21, ground := Go.Ground.gcOnly Go.Departure.lateStores }], guard := none }) (v := .int .i64 (((100 * ((x9.toNat : Int) - 48)) + (10 * ((x10.toNat : Int) - 48))) + ((x11.toNat : Int) - 48))) rfl (by kernel_rfl) (by kernel_rfl) (by kernel_rfl) (fun _ _ _ h => h) (Or.inl ⟨by kernel_rfl, ?_⟩) hS ?_
                  · intro w5 hSw
                    clear hSw hS
                    go_simp
                  simp only [Act.put, List.setIfInBounds_toArray, List.set_cons_zero, List.set_cons_succ]
                  refine wpAnyH_take (i := 18) (oi := { dst := some 72, op := Go.Op.move (Go.Operand.tmp 6), type := 3, pos := "ref.go:381", after := #[{ on := 22, ground := Go.Ground.gcOnly Go.Departure.lateStores }], guard := none }) (v := .int .i64 mj) rfl (by kernel_rfl) (by kernel_rfl) (by kernel_rfl) (fun _ _ _ h => h) (Or.inl ⟨by kernel_rfl, ?_⟩) hS ?_
                  · intro w5 hSw
                    clear hSw hS
                    go_simp
                  simp only [Act.put, List.setIfInBounds_toArray, List.set_cons_zero, List.set_cons_succ]
                  refine wpAnyH_take (i := 19) (oi := { dst := some 73, op := Go.Op.binOp Go.BinOp.geq 3 (Go.Operand.tmp 72) (Go.Operand.const (Go.Value.int Go.IntKind.i64 0)) 3, type := 4, pos := "ref.go:381", after := #[{ on := 18, ground := Go.Ground.data }, { on := 22, ground := Go.Ground.gcOnly Go.Departure.lateStores }], guard := none }) (v := .bool (decide (0 ≤ mj))) rfl (by kernel_rfl) (by kernel_rfl) (by kernel_rfl) (fun _ _ _ h => h) (Or.inl ⟨by kernel_rfl, ?_⟩) hS ?_
                  · intro w5 hSw
                    clear hSw hS
                    go_simp
                  simp only [Act.put, List.setIfInBounds_toArray, List.set_cons_zero, List.set_cons_succ]
                  refine wpAnyH_take (i := 20) (oi := { dst := some 2, op := Go.Op.assign (Go.Operand.tmp 54), type := 3, pos := "ref.go:381", after := #[{ on := 0, ground := Go.Ground.data }, { on := 0, ground := Go.Ground.phase }, { on := 1, ground := Go.Ground.textOnly Go.Departure.lateStores }, { on := 2, ground := Go.Ground.textOnly Go.Departure.lateStores }, { on := 3, ground := Go.Ground.textOnly Go.Departure.lateStores }, { on := 4, ground := Go.Ground.textOnly Go.Departure.lateStores }, { on := 5, ground := Go.Ground.textOnly Go.Departure.lateStores }, { on := 6, ground := Go.Ground.textOnly Go.Departure.lateStores }, { on := 7, ground := Go.Ground.textOnly Go.Departure.lateStores }, { on := 8, ground := Go.Ground.textOnly Go.Departure.lateStores }, { on := 9, ground := Go.Ground.textOnly Go.Departure.lateStores }, { on := 10, ground := Go.Ground.textOnly Go.Departure.lateStores }, { on := 11, ground := Go.Ground.textOnly Go.Departure.lateStores }, { on := 12, ground := Go.Ground.textOnly Go.Departure.lateStores }, { on := 13, ground := Go.Ground.textOnly Go.Departure.lateStores }, { on := 14, ground := Go.Ground.textOnly Go.Departure.lateStores }, { on := 15, ground := Go.Ground.textOnly Go.Departure.lateStores }, { on := 16, ground := Go.Ground.textOnly Go.Departure.lateStores }, { on := 17, ground := Go.Ground.textOnly Go.Departure.lateStores }, { on := 18, ground := Go.Ground.textOnly Go.Departure.lateStores }, { on := 19, ground := Go.Ground.textOnly Go.Departure.lateStores }], guard := none }) (v := .int .i64 mj) rfl (by kernel_rfl) (by kernel_rfl) (by kernel_rfl) (fun _ _ _ h => h) (Or.inl ⟨by kernel_rfl, ?_⟩) hS ?_
                  · intro w5 hSw
                    clear hSw hS
                    go_simp
                  simp only [Act.put, List.setIfInBounds_toArray, List.set_cons_zero, List.set_cons_succ]
                  refine wpAnyH_take (i := 21) (oi := { dst := some 3, op := Go.Op.assign (Go.Operand.tmp 55), type := 3, pos := "ref.go:381", after := #[{ on := 1, ground := Go.Ground.data }, { on := 20, ground := Go.Ground.chain }, { on := 0, ground := Go.Ground.phase }, { on := 1, ground := Go.Ground.phase }, { on := 2, ground := Go.Ground.textOnly Go.Departure.lateStores }, { on := 3, ground := Go.Ground.textOnly Go.Departure.lateStores }, { on := 4, ground := Go.Ground.textOnly Go.Departure.lateStores }, { on := 5, ground := Go.Ground.textOnly Go.Departure.lateStores }, { on := 6, ground := Go.Ground.textOnly Go.Departure.lateStores }, { on := 7, ground := Go.Ground.textOnly Go.Departure.lateStores }, { on := 8, ground := Go.Ground.textOnly Go.Departure.lateStores }, { on := 9, ground := Go.Ground.textOnly Go.Departure.lateStores }, { on := 10, ground := Go.Ground.textOnly Go.Departure.lateStores }, { on := 11, ground := Go.Ground.textOnly Go.Departure.lateStores }, { on := 12, ground := Go.Ground.textOnly Go.Departure.lateStores }, { on := 13, ground := Go.Ground.textOnly Go.Departure.lateStores }, { on := 14, ground := Go.Ground.textOnly Go.Departure.lateStores }, { on := 15, ground := Go.Ground.textOnly Go.Departure.lateStores }, { on := 16, ground := Go.Ground.textOnly Go.Departure.lateStores }, { on := 17, ground := Go.Ground.textOnly Go.Departure.lateStores }, { on := 18, ground := Go.Ground.textOnly Go.Departure.lateStores }, { on := 19, ground := Go.Ground.textOnly Go.Departure.lateStores }, { on := 20, ground := Go.Ground.phase }], guard := none }) (v := .int .i64 mi) rfl (by kernel_rfl) (by kernel_rfl) (by kernel_rfl) (fun _ _ _ h => h) (Or.inl ⟨by kernel_rfl, ?_⟩) hS ?_
                  · intro w5 hSw
                    clear hSw hS
                    go_simp
                  simp only [Act.put, List.setIfInBounds_toArray, List.set_cons_zero, List.set_cons_succ]
                  refine wpAnyH_take (i := 22) (oi := { dst := some 4, op := Go.Op.assign (Go.Operand.tmp 71), type := 3, pos := "ref.go:381", after := #[{ on := 17, ground := Go.Ground.data }, { on := 21, ground := Go.Ground.chain }, { on := 0, ground := Go.Ground.phase }, { on := 1, ground := Go.Ground.phase }, { on := 2, ground := Go.Ground.phase }, { on := 3, ground := Go.Ground.phase }, { on := 4, ground := Go.Ground.phase }, { on := 5, ground := Go.Ground.phase }, { on := 6, ground := Go.Ground.phase }, { on := 7, ground := Go.Ground.phase }, { on := 8, ground := Go.Ground.phase }, { on := 9, ground := Go.Ground.phase }, { on := 10, ground := Go.Ground.phase }, { on := 11, ground := Go.Ground.phase }, { on := 12, ground := Go.Ground.phase }, { on := 13, ground := Go.Ground.phase }, { on := 14, ground := Go.Ground.phase }, { on := 15, ground := Go.Ground.phase }, { on := 16, ground := Go.Ground.phase }, { on := 17, ground := Go.Ground.phase }, { on := 18, ground := Go.Ground.textOnly Go.Departure.lateStores }, { on := 19, ground := Go.Ground.textOnly Go.Departure.lateStores }, { on := 20, ground := Go.Ground.phase }, { on := 21, ground := Go.Ground.phase }], guard := none }) (v := .int .i64 (((100 * ((x9.toNat : Int) - 48)) + (10 * ((x10.toNat : Int) - 48))) + ((x11.toNat : Int) - 48))) rfl (by kernel_rfl) (by kernel_rfl) (by kernel_rfl) (fun _ _ _ h => h) (Or.inl ⟨by kernel_rfl, ?_⟩) hS ?_
                  · intro w5 hSw
                    clear hSw hS
                    go_simp
                  simp only [Act.put, List.setIfInBounds_toArray, List.set_cons_zero, List.set_cons_succ]
                  refine wpAnyH_take (i := 23) (oi := { dst := some 5, op := Go.Op.assign (Go.Operand.tmp 73), type := 4, pos := "ref.go:381", after := #[{ on := 19, ground := Go.Ground.data }, { on := 22, ground := Go.Ground.chain }, { on := 0, ground := Go.Ground.phase }, { on := 1, ground := Go.Ground.phase }, { on := 2, ground := Go.Ground.phase }, { on := 3, ground := Go.Ground.phase }, { on := 4, ground := Go.Ground.phase }, { on := 5, ground := Go.Ground.phase }, { on := 6, ground := Go.Ground.phase }, { on := 7, ground := Go.Ground.phase }, { on := 8, ground := Go.Ground.phase }, { on := 9, ground := Go.Ground.phase }, { on := 10, ground := Go.Ground.phase }, { on := 11, ground := Go.Ground.phase }, { on := 12, ground := Go.Ground.phase }, { on := 13, ground := Go.Ground.phase }, { on := 14, ground := Go.Ground.phase }, { on := 15, ground := Go.Ground.phase }, { on := 16, ground := Go.Ground.phase }, { on := 17, ground := Go.Ground.phase }, { on := 18, ground := Go.Ground.phase }, { on := 19, ground := Go.Ground.phase }, { on := 20, ground := Go.Ground.phase }, { on := 21, ground := Go.Ground.phase }, { on := 22, ground := Go.Ground.phase }], guard := none }) (v := .bool (decide (0 ≤ mj))) rfl (by kernel_rfl) (by kernel_rfl) (by kernel_rfl) (fun _ _ _ h => h) (Or.inl ⟨by kernel_rfl, ?_⟩) hS ?_
                  · intro w5 hSw
                    clear hSw hS
                    go_simp
                  simp only [Act.put, List.setIfInBounds_toArray, List.set_cons_zero, List.set_cons_succ]
                  clear hS
                  refine wpAnyH_done (by kernel_rfl) ?_ _
                  go_wp2
                  refine bodyPost_ret (results_tmp4 rfl _ _ _) rfl ?_
                  rw [HE.out]
                  exact ⟨rfl, HU3.out.drew⟩
              · have h12z' := neU (k := 32) rfl h12'
                have HE := Hid.of (HNo.out (by rw [HSk2.out, show (x12 == 32) = false by simpa using h12']; rfl))
                go_wp2
                refine bodyPost_ret (results_tmp4 rfl _ _ _) rfl ?_
                rw [HE.out]
                exact ⟨rfl, Up.refl _⟩
            · have hgtz : ¬ (12 : Int) < (s.size : Int) := by omega
              have HE := Hid.of (HYes.out (by
                rw [HSk.out, h9, h10, h11, decide_eq_true (show s.data.toList.length = 12 by rw [← HS.out]; omega)]
                rfl))
              rw [HSt.out] at HE
              go_wp2_with fail
              refine (HVr.out _).mono ?_
              rintro e w3 ⟨rfl, h9⟩
              have HU3 := Hid.of (Up.trans (Up.refl _) h9)
              clear h9 HVr
              dsimp only
              obtain ⟨mj, hmj⟩ : ∃ mj, vv.1 = mj := ⟨_, rfl⟩
              obtain ⟨mi, hmi⟩ : ∃ mi, vv.2 = mi := ⟨_, rfl⟩
              rw [hmj, hmi]
              rw [hmj, hmi] at HE
              clear hmj hmi
              go_wp2
              refine wp_region_held_drew (S := fun w2 => Up w w2) (by kernel_rfl) HU3.out.drew (fun hS => ?_)
              refine wpAnyH_take (i := 0) (oi := { dst := some 54, op := Go.Op.move (Go.Operand.tmp 6), type := 3, pos := "ref.go:381", after := #[], guard := none }) (v := .int .i64 mj) rfl (by kernel_rfl) (by kernel_rfl) (by kernel_rfl) (fun _ _ _ h => h) (Or.inl ⟨by kernel_rfl, ?_⟩) hS ?_
              · intro w5 hSw
                clear hSw hS
                go_simp
              simp only [Act.put, List.setIfInBounds_toArray, List.set_cons_zero, List.set_cons_succ]
              refine wpAnyH_take (i := 1) (oi := { dst := some 55, op := Go.Op.move (Go.Operand.tmp 7), type := 3, pos := "ref.go:381", after := #[{ on := 20, ground := Go.Ground.gcOnly Go.Departure.lateStores }], guard := none }) (v := .int .i64 mi) rfl (by kernel_rfl) (by kernel_rfl) (by kernel_rfl) (fun _ _ _ h => h) (Or.inl ⟨by kernel_rfl, ?_⟩) hS ?_
              · intro w5 hSw
                clear hSw hS
                go_simp
              simp only [Act.put, List.setIfInBounds_toArray, List.set_cons_zero, List.set_cons_succ]
              refine wpAnyH_take (i := 2) (oi := { dst := some 56, op := Go.Op.move (Go.Operand.tmp 0), type := 9, pos := "ref.go:381", after := #[{ on := 21, ground := Go.Ground.gcOnly Go.Departure.lateStores }], guard := none }) (v := .string s) rfl (by kernel_rfl) (by kernel_rfl) (by kernel_rfl) (fun _ _ _ h => h) (Or.inl ⟨by kernel_rfl, ?_⟩) hS ?_
              · intro w5 hSw
                clear hSw hS
                go_simp
              simp only [Act.put, List.setIfInBounds_toArray, List.set_cons_zero, List.set_cons_succ]
              refine wpAnyH_take (i := 3) (oi := { dst := some 57, op := Go.Op.index 9 (Go.Operand.tmp 56) (Go.Operand.const (Go.Value.int Go.IntKind.i64 9)), type := 5, pos := "ref.go:381", after := #[{ on := 2, ground := Go.Ground.data }, { on := 21, ground := Go.Ground.gcOnly Go.Departure.lateStores }], guard := none }) (v := .int .u8 (x9.toNat : Int)) rfl (by kernel_rfl) (by kernel_rfl) (by kernel_rfl) (fun _ _ _ h => h) (Or.inl ⟨by kernel_rfl, ?_⟩) hS ?_
              · intro w5 hSw
                clear hSw hS
                go_simp
              simp only [Act.put, List.setIfInBounds_toArray, List.set_cons_zero, List.set_cons_succ]
              refine wpAnyH_take (i := 4) (oi := { dst := some 58, op := Go.Op.binOp Go.BinOp.sub 5 (Go.Operand.tmp 57) (Go.Operand.const (Go.Value.int Go.IntKind.u8 48)) 5, type := 5, pos := "ref.go:381", after := #[{ on := 3, ground := Go.Ground.data }, { on := 21, ground := Go.Ground.gcOnly Go.Departure.lateStores }], guard := none }) (v := .int .u8 ((x9.toNat : Int) - 48)) rfl (by kernel_rfl) (by kernel_rfl) (by kernel_rfl) (fun _ _ _ h => h) (Or.inl ⟨by kernel_rfl, ?_⟩) hS ?_
              · intro w5 hSw
                clear hSw hS
                go_simp
              simp only [Act.put, List.setIfInBounds_toArray, List.set_cons_zero, List.set_cons_succ]
              refine wpAnyH_take (i := 5) (oi := { dst := some 59, op := Go.Op.convert 5 3 (Go.Operand.tmp 58), type := 3, pos := "ref.go:381", after := #[{ on := 4, ground := Go.Ground.data }, { on := 21, ground := Go.Ground.gcOnly Go.Departure.lateStores }], guard := none }) (v := .int .i64 ((x9.toNat : Int) - 48)) rfl (by kernel_rfl) (by kernel_rfl) (by kernel_rfl) (fun _ _ _ h => h) (Or.inl ⟨by kernel_rfl, ?_⟩) hS ?_
              · intro w5 hSw
                clear hSw hS
                go_simp
              simp only [Act.put, List.setIfInBounds_toArray, List.set_cons_zero, List.set_cons_succ]
              refine wpAnyH_take (i := 6) (oi := { dst := some 60, op := Go.Op.binOp Go.BinOp.mul 3 (Go.Operand.const (Go.Value.int Go.IntKind.i64 100)) (Go.Operand.tmp 59) 3, type := 3, pos := "ref.go:381", after := #[{ on := 5, ground := Go.Ground.data }, { on := 21, ground := Go.Ground.gcOnly Go.Departure.lateStores }], guard := none }) (v := .int .i64 (100 * ((x9.toNat : Int) - 48))) rfl (by kernel_rfl) (by kernel_rfl) (by kernel_rfl) (fun _ _ _ h => h) (Or.inl ⟨by kernel_rfl, ?_⟩) hS ?_
              · intro w5 hSw
                clear hSw hS
                go_simp
              simp only [Act.put, List.setIfInBounds_toArray, List.set_cons_zero, List.set_cons_succ]
              refine wpAnyH_take (i := 7) (oi := { dst := some 61, op := Go.Op.move (Go.Operand.tmp 0), type := 9, pos := "ref.go:381", after := #[{ on := 21, ground := Go.Ground.gcOnly Go.Departure.lateStores }], guard := none }) (v := .string s) rfl (by kernel_rfl) (by kernel_rfl) (by kernel_rfl) (fun _ _ _ h => h) (Or.inl ⟨by kernel_rfl, ?_⟩) hS ?_
              · intro w5 hSw
                clear hSw hS
                go_simp
              simp only [Act.put, List.setIfInBounds_toArray, List.set_cons_zero, List.set_cons_succ]
              refine wpAnyH_take (i := 8) (oi := { dst := some 62, op := Go.Op.index 9 (Go.Operand.tmp 61) (Go.Operand.const (Go.Value.int Go.IntKind.i64 10)), type := 5, pos := "ref.go:381", after := #[{ on := 7, ground := Go.Ground.data }, { on := 21, ground := Go.Ground.gcOnly Go.Departure.lateStores }], guard := none }) (v := .int .u8 (x10.toNat : Int)) rfl (by kernel_rfl) (by kernel_rfl) (by kernel_rfl) (fun _ _ _ h => h) (Or.inl ⟨by kernel_rfl, ?_⟩) hS ?_
              · intro w5 hSw
                clear hSw hS
                go_simp
              simp only [Act.put, List.setIfInBounds_toArray, List.set_cons_zero, List.set_cons_succ]
              refine wpAnyH_take (i := 9) (oi := { dst := some 63, op := Go.Op.binOp Go.BinOp.sub 5 (Go.Operand.tmp 62) (Go.Operand.const (Go.Value.int Go.IntKind.u8 48)) 5, type := 5, pos := "ref.go:381", after := #[{ on := 8, ground := Go.Ground.data }, { on := 21, ground := Go.Ground.gcOnly Go.Departure.lateStores }], guard := none }) (v := .int .u8 ((x10.toNat : Int) - 48)) rfl (by kernel_rfl) (by kernel_rfl) (by kernel_rfl) (fun _ _ _ h => h) (Or.inl ⟨by kernel_rfl, ?_⟩) hS ?_
              · intro w5 hSw
                clear hSw hS
                go_simp
              simp only [Act.put, List.setIfInBounds_toArray, List.set_cons_zero, List.set_cons_succ]
              refine wpAnyH_take (i := 10) (oi := { dst := some 64, op := Go.Op.convert 5 3 (Go.Operand.tmp 63), type := 3, pos := "ref.go:381", after := #[{ on := 9, ground := Go.Ground.data }, { on := 21, ground := Go.Ground.gcOnly Go.Departure.lateStores }], guard := none }) (v := .int .i64 ((x10.toNat : Int) - 48)) rfl (by kernel_rfl) (by kernel_rfl) (by kernel_rfl) (fun _ _ _ h => h) (Or.inl ⟨by kernel_rfl, ?_⟩) hS ?_
              · intro w5 hSw
                clear hSw hS
                go_simp
              simp only [Act.put, List.setIfInBounds_toArray, List.set_cons_zero, List.set_cons_succ]
              refine wpAnyH_take (i := 11) (oi := { dst := some 65, op := Go.Op.binOp Go.BinOp.mul 3 (Go.Operand.const (Go.Value.int Go.IntKind.i64 10)) (Go.Operand.tmp 64) 3, type := 3, pos := "ref.go:381", after := #[{ on := 10, ground := Go.Ground.data }, { on := 21, ground := Go.Ground.gcOnly Go.Departure.lateStores }], guard := none }) (v := .int .i64 (10 * ((x10.toNat : Int) - 48))) rfl (by kernel_rfl) (by kernel_rfl) (by kernel_rfl) (fun _ _ _ h => h) (Or.inl ⟨by kernel_rfl, ?_⟩) hS ?_
              · intro w5 hSw
                clear hSw hS
                go_simp
              simp only [Act.put, List.setIfInBounds_toArray, List.set_cons_zero, List.set_cons_succ]
              refine wpAnyH_take (i := 12) (oi := { dst := some 66, op := Go.Op.binOp Go.BinOp.add 3 (Go.Operand.tmp 60) (Go.Operand.tmp 65) 3, type := 3, pos := "ref.go:381", after := #[{ on := 6, ground := Go.Ground.data }, { on := 11, ground := Go.Ground.data }, { on := 21, ground := Go.Ground.gcOnly Go.Departure.lateStores }], guard := none }) (v := .int .i64 ((100 * ((x9.toNat : Int) - 48)) + (10 * ((x10.toNat : Int) - 48)))) rfl (by kernel_rfl) (by kernel_rfl) (by kernel_rfl) (fun _ _ _ h => h) (Or.inl ⟨by kernel_rfl, ?_⟩) hS ?_
              · intro w5 hSw
                clear hSw hS
                go_simp
              simp only [Act.put, List.setIfInBounds_toArray, List.set_cons_zero, List.set_cons_succ]
              refine wpAnyH_take (i := 13) (oi := { dst := some 67, op := Go.Op.move (Go.Operand.tmp 0), type := 9, pos := "ref.go:381", after := #[{ on := 21, ground := Go.Ground.gcOnly Go.Departure.lateStores }], guard := none }) (v := .string s) rfl (by kernel_rfl) (by kernel_rfl) (by kernel_rfl) (fun _ _ _ h => h) (Or.inl ⟨by kernel_rfl, ?_⟩) hS ?_
              · intro w5 hSw
                clear hSw hS
                go_simp
              simp only [Act.put, List.setIfInBounds_toArray, List.set_cons_zero, List.set_cons_succ]
              refine wpAnyH_take (i := 14) (oi := { dst := some 68, op := Go.Op.index 9 (Go.Operand.tmp 67) (Go.Operand.const (Go.Value.int Go.IntKind.i64 11)), type := 5, pos := "ref.go:381", after := #[{ on := 13, ground := Go.Ground.data }, { on := 21, ground := Go.Ground.gcOnly Go.Departure.lateStores }], guard := none }) (v := .int .u8 (x11.toNat : Int)) rfl (by kernel_rfl) (by kernel_rfl) (by kernel_rfl) (fun _ _ _ h => h) (Or.inl ⟨by kernel_rfl, ?_⟩) hS ?_
              · intro w5 hSw
                clear hSw hS
                go_simp
              simp only [Act.put, List.setIfInBounds_toArray, List.set_cons_zero, List.set_cons_succ]
              refine wpAnyH_take (i := 15) (oi := { dst := some 69, op := Go.Op.binOp Go.BinOp.sub 5 (Go.Operand.tmp 68) (Go.Operand.const (Go.Value.int Go.IntKind.u8 48)) 5, type := 5, pos := "ref.go:381", after := #[{ on := 14, ground := Go.Ground.data }, { on := 21, ground := Go.Ground.gcOnly Go.Departure.lateStores }], guard := none }) (v := .int .u8 ((x11.toNat : Int) - 48)) rfl (by kernel_rfl) (by kernel_rfl) (by kernel_rfl) (fun _ _ _ h => h) (Or.inl ⟨by kernel_rfl, ?_⟩) hS ?_
              · intro w5 hSw
                clear hSw hS
                go_simp
              simp only [Act.put, List.setIfInBounds_toArray, List.set_cons_zero, List.set_cons_succ]
              refine wpAnyH_take (i := 16) (oi := { dst := some 70, op := Go.Op.convert 5 3 (Go.Operand.tmp 69), type := 3, pos := "ref.go:381", after := #[{ on := 15, ground := Go.Ground.data }, { on := 21, ground := Go.Ground.gcOnly Go.Departure.lateStores }], guard := none }) (v := .int .i64 ((x11.toNat : Int) - 48)) rfl (by kernel_rfl) (by kernel_rfl) (by kernel_rfl) (fun _ _ _ h => h) (Or.inl ⟨by kernel_rfl, ?_⟩) hS ?_
              · intro w5 hSw
                clear hSw hS
                go_simp
              simp only [Act.put, List.setIfInBounds_toArray, List.set_cons_zero, List.set_cons_succ]
              refine wpAnyH_take (i := 17) (oi := { dst := some 71, op := Go.Op.binOp Go.BinOp.add 3 (Go.Operand.tmp 66) (Go.Operand.tmp 70) 3, type := 3, pos := "ref.go:381", after := #[{ on := 12, ground := Go.Ground.data }, { on := 16, ground := Go.Ground.data }, { on := 21, ground := Go.Ground.gcOnly Go.Departure.lateStores }], guard := none }) (v := .int .i64 (((100 * ((x9.toNat : Int) - 48)) + (10 * ((x10.toNat : Int) - 48))) + ((x11.toNat : Int) - 48))) rfl (by kernel_rfl) (by kernel_rfl) (by kernel_rfl) (fun _ _ _ h => h) (Or.inl ⟨by kernel_rfl, ?_⟩) hS ?_
              · intro w5 hSw
                clear hSw hS
                go_simp
              simp only [Act.put, List.setIfInBounds_toArray, List.set_cons_zero, List.set_cons_succ]
              refine wpAnyH_take (i := 18) (oi := { dst := some 72, op := Go.Op.move (Go.Operand.tmp 6), type := 3, pos := "ref.go:381", after := #[{ on := 22, ground := Go.Ground.gcOnly Go.Departure.lateStores }], guard := none }) (v := .int .i64 mj) rfl (by kernel_rfl) (by kernel_rfl) (by kernel_rfl) (fun _ _ _ h => h) (Or.inl ⟨by kernel_rfl, ?_⟩) hS ?_
              · intro w5 hSw
                clear hSw hS
                go_simp
              simp only [Act.put, List.setIfInBounds_toArray, List.set_cons_zero, List.set_cons_succ]
              refine wpAnyH_take (i := 19) (oi := { dst := some 73, op := Go.Op.binOp Go.BinOp.geq 3 (Go.Operand.tmp 72) (Go.Operand.const (Go.Value.int Go.IntKind.i64 0)) 3, type := 4, pos := "ref.go:381", after := #[{ on := 18, ground := Go.Ground.data }, { on := 22, ground := Go.Ground.gcOnly Go.Departure.lateStores }], guard := none }) (v := .bool (decide (0 ≤ mj))) rfl (by kernel_rfl) (by kernel_rfl) (by kernel_rfl) (fun _ _ _ h => h) (Or.inl ⟨by kernel_rfl, ?_⟩) hS ?_
              · intro w5 hSw
                clear hSw hS
                go_simp
              simp only [Act.put, List.setIfInBounds_toArray, List.set_cons_zero, List.set_cons_succ]
              refine wpAnyH_take (i := 20) (oi := { dst := some 2, op := Go.Op.assign (Go.Operand.tmp 54), type := 3, pos := "ref.go:381", after := #[{ on := 0, ground := Go.Ground.data }, { on := 0, ground := Go.Ground.phase }, { on := 1, ground := Go.Ground.textOnly Go.Departure.lateStores }, { on := 2, ground := Go.Ground.textOnly Go.Departure.lateStores }, { on := 3, ground := Go.Ground.textOnly Go.Departure.lateStores }, { on := 4, ground := Go.Ground.textOnly Go.Departure.lateStores }, { on := 5, ground := Go.Ground.textOnly Go.Departure.lateStores }, { on := 6, ground := Go.Ground.textOnly Go.Departure.lateStores }, { on := 7, ground := Go.Ground.textOnly Go.Departure.lateStores }, { on := 8, ground := Go.Ground.textOnly Go.Departure.lateStores }, { on := 9, ground := Go.Ground.textOnly Go.Departure.lateStores }, { on := 10, ground := Go.Ground.textOnly Go.Departure.lateStores }, { on := 11, ground := Go.Ground.textOnly Go.Departure.lateStores }, { on := 12, ground := Go.Ground.textOnly Go.Departure.lateStores }, { on := 13, ground := Go.Ground.textOnly Go.Departure.lateStores }, { on := 14, ground := Go.Ground.textOnly Go.Departure.lateStores }, { on := 15, ground := Go.Ground.textOnly Go.Departure.lateStores }, { on := 16, ground := Go.Ground.textOnly Go.Departure.lateStores }, { on := 17, ground := Go.Ground.textOnly Go.Departure.lateStores }, { on := 18, ground := Go.Ground.textOnly Go.Departure.lateStores }, { on := 19, ground := Go.Ground.textOnly Go.Departure.lateStores }], guard := none }) (v := .int .i64 mj) rfl (by kernel_rfl) (by kernel_rfl) (by kernel_rfl) (fun _ _ _ h => h) (Or.inl ⟨by kernel_rfl, ?_⟩) hS ?_
              · intro w5 hSw
                clear hSw hS
                go_simp
              simp only [Act.put, List.setIfInBounds_toArray, List.set_cons_zero, List.set_cons_succ]
              refine wpAnyH_take (i := 21) (oi := { dst := some 3, op := Go.Op.assign (Go.Operand.tmp 55), type := 3, pos := "ref.go:381", after := #[{ on := 1, ground := Go.Ground.data }, { on := 20, ground := Go.Ground.chain }, { on := 0, ground := Go.Ground.phase }, { on := 1, ground := Go.Ground.phase }, { on := 2, ground := Go.Ground.textOnly Go.Departure.lateStores }, { on := 3, ground := Go.Ground.textOnly Go.Departure.lateStores }, { on := 4, ground := Go.Ground.textOnly Go.Departure.lateStores }, { on := 5, ground := Go.Ground.textOnly Go.Departure.lateStores }, { on := 6, ground := Go.Ground.textOnly Go.Departure.lateStores }, { on := 7, ground := Go.Ground.textOnly Go.Departure.lateStores }, { on := 8, ground := Go.Ground.textOnly Go.Departure.lateStores }, { on := 9, ground := Go.Ground.textOnly Go.Departure.lateStores }, { on := 10, ground := Go.Ground.textOnly Go.Departure.lateStores }, { on := 11, ground := Go.Ground.textOnly Go.Departure.lateStores }, { on := 12, ground := Go.Ground.textOnly Go.Departure.lateStores }, { on := 13, ground := Go.Ground.textOnly Go.Departure.lateStores }, { on := 14, ground := Go.Ground.textOnly Go.Departure.lateStores }, { on := 15, ground := Go.Ground.textOnly Go.Departure.lateStores }, { on := 16, ground := Go.Ground.textOnly Go.Departure.lateStores }, { on := 17, ground := Go.Ground.textOnly Go.Departure.lateStores }, { on := 18, ground := Go.Ground.textOnly Go.Departure.lateStores }, { on := 19, ground := Go.Ground.textOnly Go.Departure.lateStores }, { on := 20, ground := Go.Ground.phase }], guard := none }) (v := .int .i64 mi) rfl (by kernel_rfl) (by kernel_rfl) (by kernel_rfl) (fun _ _ _ h => h) (Or.inl ⟨by kernel_rfl, ?_⟩) hS ?_
              · intro w5 hSw
                clear hSw hS
                go_simp
              simp only [Act.put, List.setIfInBounds_toArray, List.set_cons_zero, List.set_cons_succ]
              refine wpAnyH_take (i := 22) (oi := { dst := some 4, op := Go.Op.assign (Go.Operand.tmp 71), type := 3, pos := "ref.go:381", after := #[{ on := 17, ground := Go.Ground.data }, { on := 21, ground := Go.Ground.chain }, { on := 0, ground := Go.Ground.phase }, { on := 1, ground := Go.Ground.phase }, { on := 2, ground := Go.Ground.phase }, { on := 3, ground := Go.Ground.phase }, { on := 4, ground := Go.Ground.phase }, { on := 5, ground := Go.Ground.phase }, { on := 6, ground := Go.Ground.phase }, { on := 7, ground := Go.Ground.phase }, { on := 8, ground := Go.Ground.phase }, { on := 9, ground := Go.Ground.phase }, { on := 10, ground := Go.Ground.phase }, { on := 11, ground := Go.Ground.phase }, { on := 12, ground := Go.Ground.phase }, { on := 13, ground := Go.Ground.phase }, { on := 14, ground := Go.Ground.phase }, { on := 15, ground := Go.Ground.phase }, { on := 16, ground := Go.Ground.phase }, { on := 17, ground := Go.Ground.phase }, { on := 18, ground := Go.Ground.textOnly Go.Departure.lateStores }, { on := 19, ground := Go.Ground.textOnly Go.Departure.lateStores }, { on := 20, ground := Go.Ground.phase }, { on := 21, ground := Go.Ground.phase }], guard := none }) (v := .int .i64 (((100 * ((x9.toNat : Int) - 48)) + (10 * ((x10.toNat : Int) - 48))) + ((x11.toNat : Int) - 48))) rfl (by kernel_rfl) (by kernel_rfl) (by kernel_rfl) (fun _ _ _ h => h) (Or.inl ⟨by kernel_rfl, ?_⟩) hS ?_
              · intro w5 hSw
                clear hSw hS
                go_simp
              simp only [Act.put, List.setIfInBounds_toArray, List.set_cons_zero, List.set_cons_succ]
              refine wpAnyH_take (i := 23) (oi := { dst := some 5, op := Go.Op.assign (Go.Operand.tmp 73), type := 4, pos := "ref.go:381", after := #[{ on := 19, ground := Go.Ground.data }, { on := 22, ground := Go.Ground.chain }, { on := 0, ground := Go.Ground.phase }, { on := 1, ground := Go.Ground.phase }, { on := 2, ground := Go.Ground.phase }, { on := 3, ground := Go.Ground.phase }, { on := 4, ground := Go.Ground.phase }, { on := 5, ground := Go.Ground.phase }, { on := 6, ground := Go.Ground.phase }, { on := 7, ground := Go.Ground.phase }, { on := 8, ground := Go.Ground.phase }, { on := 9, ground := Go.Ground.phase }, { on := 10, ground := Go.Ground.phase }, { on := 11, ground := Go.Ground.phase }, { on := 12, ground := Go.Ground.phase }, { on := 13, ground := Go.Ground.phase }, { on := 14, ground := Go.Ground.phase }, { on := 15, ground := Go.Ground.phase }, { on := 16, ground := Go.Ground.phase }, { on := 17, ground := Go.Ground.phase }, { on := 18, ground := Go.Ground.phase }, { on := 19, ground := Go.Ground.phase }, { on := 20, ground := Go.Ground.phase }, { on := 21, ground := Go.Ground.phase }, { on := 22, ground := Go.Ground.phase }], guard := none }) (v := .bool (decide (0 ≤ mj))) rfl (by kernel_rfl) (by kernel_rfl) (by kernel_rfl) (fun _ _ _ h => h) (Or.inl ⟨by kernel_rfl, ?_⟩) hS ?_
              · intro w5 hSw
                clear hSw hS
                go_simp
              simp only [Act.put, List.setIfInBounds_toArray, List.set_cons_zero, List.set_cons_succ]
              clear hS
              refine wpAnyH_done (by kernel_rfl) ?_ _
              go_wp2
              refine bodyPost_ret (results_tmp4 rfl _ _ _) rfl ?_
              rw [HE.out]
              exact ⟨rfl, HU3.out.drew⟩
    · have h8z := neU (k := 32) rfl h8
      have HE := Hid.of (HNo.out (by rw [HSk.out, show (x8 == 32) = false by simpa using h8]; rfl))
      go_enter Tryz.func80, Tryz.ntmps80
      go_wp2
      refine bodyPost_ret (results_tmp4 rfl _ _ _) rfl ?_
      rw [HE.out]
      exact ⟨rfl, Up.refl _⟩
end Go.Proofs.YtabpgpbcnadgcaaGreatDoor
namespace Go.Proofs.YtabpgpbcnadgcaaGreatDoor
open Go.RowKit Go.Shelf TextNum
def ChR (w w' : World) (e : Ending) : Er (List UInt8 × List (List UInt8) × Nat) → Prop
  | .error k => ∃ a n c, e = .returned (.tuple #[.string ⟨#[]⟩, .slice a n c, .int .i64 0, .int .i64 (numK k)])
  | .ok (st, ls, k) => ∃ a2 c2, e = .returned (.tuple #[vs st, .slice a2 ls.length c2, .int .i64 (k : Int), .int .i64 0]) ∧ Hid (StO w' w.heap.size a2 (bts ls) c2)
/-- the field lines from there on -/
def rfA (L : List UInt8) (k : Nat) : Option (List (List UInt8) × Nat × Nat) := rfl' ((L.drop k).length + 1) (L.drop k)
theorem rfA_step (L : List UInt8) (k : Nat) : rfA L k = match fnl (L.drop k) with
    | none => none
    | some i => if tcr ((L.drop k).take i) = [] then some ([], 0, i + 1) else (rfA L (k + i + 1)).map fun p => (tcr ((L.drop k).take i) :: p.1, i + 1 + p.2.1, i + 1 + p.2.2) := by
  have key : rfA L k = rfl' ((L.drop k).length + 1) (L.drop k) := rfl
  rw [key, rfl']
  cases hf : fnl (L.drop k) with
  | none => rfl
  | some i =>
    have hi := fnl_lt hf
    rw [List.length_drop] at hi
    dsimp only
    unfold rfA
    rw [List.drop_drop, show k + (i + 1) = k + i + 1 by omega, rfl'_fuel ((L.drop k).length) ((L.drop (k + i + 1)).length + 1) (L.drop (k + i + 1)) (by rw [List.length_drop, List.length_drop]; omega) (by omega)]
set_option maxRecDepth 100000 in
set_option maxHeartbeats 8000000 in
theorem RcutHead_walk (s : ByteArray) (pl : Nat) (hpl : pl < 12) (lg : Int) (hlg : lg = nums pl) (hs : s.size ≤ 1099511627000) (w : World) : Calls Tryz.prog 73 #[.string s, .int .i64 lg] w fun e w' => ChR w w' e (rHd pl s.data.toList) ∧ Up w w' := by
  have HZ := Hid.of (Go.Lib.size_eq s)
  have HLg := Hid.of (show numK (12 + pl) = lg by unfold numK; rw [if_neg (by omega), show 12 + pl - 12 = pl by omega]; exact hlg.symm)
  clear hlg hpl
  obtain ⟨L, hL⟩ : ∃ L, s.data.toList = L := ⟨_, rfl⟩
  have HL := Hid.of hL
  rw [hL] at HZ ⊢
  clear hL
  obtain ⟨rv, hrv⟩ : ∃ rv, rHd pl L = rv := ⟨_, rfl⟩
  have HR := Hid.of hrv
  unfold rHd at HR
  rw [hrv]
  clear hrv
  have HLn := Hid.of (RlineAt_walk s 0 (by omega) (by omega) w)
  rw [HL.out] at HLn
  have HA : Hid (lnA L 0 = match fnl L with | none => ([], -1) | some i => (tcr (L.take i), ((0 + i + 1 : Nat) : Int))) := Hid.of rfl
  cases hf : fnl L with
  | none =>
    rw [hf] at HR HA
    dsimp only at HR HA
    rw [HA.out] at HLn
    dsimp only at HLn
    clear hf HA
    go_enter Tryz.func73, Tryz.ntmps73
    go_wp2_with fail
    refine HLn.out.mono ?_
    rintro e w2 ⟨rfl, h9⟩
    have HU2 := Hid.of h9
    clear h9 HLn
    dsimp only
    by_cases h : s.size < 8002
    · have hz : ¬ (8001 : Int) < (s.size : Int) := by omega
      rw [if_pos (by rw [← HZ.out]; exact h)] at HR
      go_wp2
      refine bodyPost_ret (results_tmp4 rfl _ _ _) rfl ?_
      rw [← HR.out]
      exact ⟨⟨_, _, _, rfl⟩, HU2.out⟩
    · have hz : (8001 : Int) < (s.size : Int) := by omega
      rw [if_neg (by rw [← HZ.out]; exact h)] at HR
      go_wp2
      refine bodyPost_ret (results_tmp4 rfl _ _ _) rfl ?_
      rw [← HR.out]
      refine ⟨⟨none, 0, 0, ?_⟩, HU2.out⟩
      rw [HLg.out]
      rfl
  | some i =>
    have hil := fnl_lt hf
    rw [← HZ.out] at hil
    rw [hf] at HR HA
    dsimp only at HR HA
    rw [HA.out] at HLn
    dsimp only at HLn
    have hlen := tcr_len (L.take i)
    rw [List.length_take] at hlen
    generalize tcr (L.take i) = ln at *
    obtain ⟨b0, hb0⟩ : ∃ b0, i + 1 = b0 := ⟨_, rfl⟩
    rw [show 0 + i + 1 = b0 by omega] at HLn
    rw [hb0] at HR
    have hbs : b0 ≤ s.size := by omega
    obtain ⟨X, hX⟩ : ∃ X : ByteArray, (⟨ln.toArray⟩ : ByteArray) = X := ⟨_, rfl⟩
    have HXl := Hid.of (show X.data.toList = ln by rw [← hX])
    have HXz := Hid.of (show X.size = ln.length by rw [Go.Lib.size_eq, HXl.out])
    have hXz : X.size ≤ s.size := by rw [HXz.out]; omega
    have hvX : vs ln = .string X := by rw [← hX]
    rw [hvX] at HLn
    have HvX := Hid.of hvX
    clear hX hvX hlen hf hil hb0 HA HXl
    go_enter Tryz.func73, Tryz.ntmps73
    go_wp2_with fail
    refine HLn.out.mono ?_
    rintro e w2 ⟨rfl, h9⟩
    have HU2 := Hid.of h9
    clear h9 HLn
    dsimp only
    have hbz : ¬ (b0 : Int) < 0 := by omega
    by_cases h8 : 8000 < X.size
    · have h8z : (8000 : Int) < (X.size : Int) := by omega
      rw [if_pos (by rw [← HXz.out]; exact h8)] at HR
      go_wp2
      refine bodyPost_ret (results_tmp4 rfl _ _ _) rfl ?_
      rw [← HR.out]
      refine ⟨⟨none, 0, 0, ?_⟩, HU2.out⟩
      rw [HLg.out]
      rfl
    · have h8z : ¬ (8000 : Int) < (X.size : Int) := by omega
      rw [if_neg (by rw [← HXz.out]; exact h8)] at HR
      have HR2 := Hid.of (show rv = match rfA L b0 with
        | none => if 16384 < s.size - b0 then .error 1 else .error 2
        | some (ls, _, a) => if 16384 < a then .error 1 else .ok (ln, ls, b0 + a) by
          rw [← HR.out, HZ.out, List.length_drop]
          rfl)
      clear HR
      go_wp2
      go_loopw [8, 10] (fun v8 v10 wr => ∃ (k q : Nat) (a7 : Option Addr) (c7 : Nat), v10 = .int .i64 (k : Int) ∧ v8 = .slice a7 q c7 ∧ b0 ≤ k ∧ k ≤ s.size ∧ q ≤ k ∧ Hid (∃ d, d.length = q ∧ StO wr w.heap.size a7 (bts d) c7 ∧ Up w wr ∧ rfA L b0 = (rfA L k).map fun p => (d ++ p.1, (k - b0) + p.2.1, (k - b0) + p.2.2))) (fun _ v10 _ => s.size - (intOf v10).toNat)
      case atStart =>
        refine ⟨b0, 0, none, 0, rfl, rfl, Nat.le_refl _, hbs, Nat.zero_le _, Hid.of ⟨[], rfl, World.ownsRow_nil _ _ _ _, HU2.out, ?_⟩⟩
        cases rfA L b0 with
        | none => rfl
        | some p => simp
      case round =>
        obtain ⟨k, q, a7, c7, rfl, rfl, hbk, hks, hqk, hU⟩ := hrel
        obtain ⟨d, hdl, hO, hUp, hrf⟩ := hU.out
        have HO := Hid.of hO
        have HU := Hid.of hUp
        have HD := Hid.of (show (bts d).length = q by rw [bts_len]; exact hdl)
        have HF := Hid.of (hrf.trans (congrArg (Option.map fun p => (d ++ p.1, (k - b0) + p.2.1, (k - b0) + p.2.2)) (rfA_step L k)))
        clear hU hO hUp hdl hrf
        have HLn := Hid.of (RlineAt_walk s k (by omega) (by omega) wr)
        rw [HL.out] at HLn
        have HA : Hid (lnA L k = match fnl (L.drop k) with | none => ([], -1) | some i => (tcr ((L.drop k).take i), ((k + i + 1 : Nat) : Int))) := Hid.of rfl
        cases hf : fnl (L.drop k) with
        | none =>
          rw [hf] at HF HA
          dsimp only at HF HA
          rw [HA.out] at HLn
          dsimp only at HLn
          have HR3 := Hid.of (show rv = if 16384 < s.size - b0 then .error 1 else .error 2 by rw [HR2.out, HF.out]; rfl)
          go_wp2_with fail
          refine HLn.out.mono ?_
          rintro e w3 ⟨rfl, h9⟩
          have HU3 := Hid.of (HU.out.trans h9)
          clear h9 HLn HA hf HF
          dsimp only
          by_cases h16 : 16384 < s.size - b0
          · have hz : (16384 : Int) < (s.size : Int) - (b0 : Int) := by omega
            rw [if_pos h16] at HR3
            go_wp2
            refine bodyPost_ret (results_tmp4 rfl _ _ _) rfl ?_
            rw [HR3.out]
            exact ⟨⟨a7, q, c7, rfl⟩, HU3.out⟩
          · have hz : ¬ (16384 : Int) < (s.size : Int) - (b0 : Int) := by omega
            rw [if_neg h16] at HR3
            go_wp2
            refine bodyPost_ret (results_tmp4 rfl _ _ _) rfl ?_
            rw [HR3.out]
            exact ⟨⟨a7, q, c7, rfl⟩, HU3.out⟩
        | some i =>
          have hil := fnl_lt hf
          rw [List.length_drop, ← HZ.out] at hil
          rw [hf] at HF HA
          dsimp only at HF HA
          rw [HA.out] at HLn
          dsimp only at HLn
          have hlen := tcr_len ((L.drop k).take i)
          rw [List.length_take] at hlen
          generalize tcr ((L.drop k).take i) = y at *
          obtain ⟨nx, hnx⟩ : ∃ nx, k + i + 1 = nx := ⟨_, rfl⟩
          rw [hnx] at HF HLn
          have hnk : k < nx := by omega
          have hns : nx ≤ s.size := by omega
          have hnx0 : ¬ (nx : Int) < 0 := by omega
          obtain ⟨Y, hY⟩ : ∃ Y : ByteArray, (⟨y.toArray⟩ : ByteArray) = Y := ⟨_, rfl⟩
          have HYl := Hid.of (show Y.data.toList = y by rw [← hY])
          have HYz := Hid.of (show Y.size = y.length by rw [Go.Lib.size_eq, HYl.out])
          have hvY : vs y = .string Y := by rw [← hY]
          have HYm := Hid.of hY
          rw [hvY] at HLn
          clear hY hvY hlen hf HA HYl
          go_wp2_with fail
          refine HLn.out.mono ?_
          rintro e w3 ⟨rfl, h9⟩
          have HU3 := Hid.of (HU.out.trans h9)
          have HO3 := Hid.of (ow_up HO.out h9)
          clear h9 HLn HU HO
          dsimp only
          by_cases hy0 : y = []
          · have hem := emp_yes (s := Y) (by rw [HYz.out, hy0]; rfl)
            have HR3 := Hid.of (show rv = if 16384 < nx - b0 then .error 1 else .ok (ln, d, nx) by
              rw [HR2.out, HF.out, if_pos hy0]
              dsimp only [Option.map_some]
              rw [show k - b0 + (i + 1) = nx - b0 by omega, List.append_nil, show b0 + (nx - b0) = nx by omega])
            clear HF hy0
            by_cases h16 : 16384 < nx - b0
            · have hz : (16384 : Int) < (nx : Int) - (b0 : Int) := by omega
              rw [if_pos h16] at HR3
              go_wp2
              refine bodyPost_ret (results_tmp4 rfl _ _ _) rfl ?_
              rw [HR3.out]
              exact ⟨⟨a7, q, c7, rfl⟩, HU3.out⟩
            · have hz : ¬ (16384 : Int) < (nx : Int) - (b0 : Int) := by omega
              rw [if_neg h16] at HR3
              go_wp2
              refine bodyPost_ret (results_tmp4 rfl _ _ _) rfl ?_
              rw [HR3.out]
              refine ⟨⟨a7, c7, ?_, HO3⟩, HU3.out⟩
              rw [HvX.out, ← bts_len, HD.out]
              rfl
          · have hem := emp_no (s := Y) (by rw [HYz.out]; exact List.length_pos_iff.2 hy0)
            rw [if_neg hy0] at HF
            clear hy0
            go_wp2_with (with_reducible show wpList _ _ _ ({ dst := _, op := Op.call { callee := Callee.builtin Builtin.append, args := _, argTypes := _ }, type := _, pos := _, after := _, guard := _ } :: _) _ _; refine Shut.out ?_)
            show wpList _ _ _ _ _ _
            refine wpList_appSt (w := w3) (N := w.heap.size) rfl _ _ rfl a7 c7 _ Y HD.out rfl rfl HO3.out HU3.out.size (by omega) ?_
            intro ax2 cx2 w7 o7 u7
            have HO7 := Hid.of (show StO w7 w.heap.size ax2 (bts (d ++ [y])) cx2 by rw [bts_snoc, HYm.out]; exact o7)
            have HU7 := Hid.of (u7 w HU3.out (Nat.le_refl _))
            have HL7 := Hid.of (show (d ++ [y]).length = q + 1 by rw [List.length_append, ← bts_len, HD.out]; rfl)
            have HF7 := Hid.of (show rfA L b0 = (rfA L nx).map fun p => ((d ++ [y]) ++ p.1, (nx - b0) + p.2.1, (nx - b0) + p.2.2) by
              rw [HF.out, Option.map_map]
              congr 1
              funext p
              simp only [Function.comp, List.append_assoc, List.singleton_append, Prod.mk.injEq, true_and]
              omega)
            clear o7 u7 HF
            simp only [Act.put, List.setIfInBounds_toArray, List.set_cons_zero, List.set_cons_succ]
            go_wp2
            go_roundw
            all_goals first
              | exact ⟨nx, q + 1, ax2, cx2, rfl, rfl, by omega, hns, by omega, Hid.of ⟨d ++ [y], HL7.out, HO7.out, HU7.out, HF7.out⟩⟩
              | (simp [intOf]; omega)
end Go.Proofs.YtabpgpbcnadgcaaGreatDoor
namespace Go.Proofs.YtabpgpbcnadgcaaGreatDoor
open Go.RowKit Go.Shelf TextNum
theorem rsg_er {st fl : List UInt8} {k : Nat} (h : rsg st fl = .error k) : k < 12 := by
  unfold rsg at h
  split at h
  · rename_i he
    injection h with h
    subst h
    exact rsl_er he
  · split at h
    · rename_i he
      injection h with h
      subst h
      exact rdf_er he
    · split at h
      · rename_i he
        injection h with h
        subst h
        exact rsF_er he
      · cases h
theorem rsP_lt {l : List UInt8} {k : Nat} (h : rsP l = .error k) : k < 24 := msg_lt (by decide) (fun _ _ _ => rsg_er) h
def PsR (w w' : World) (e : Ending) : Er ((Rs × Bool × List UInt8) × Nat) → Prop
  | .error k => e = .returned (.tuple #[.agg z5.toArray, .int .i64 0, .int .i64 (numK k)])
  | .ok ((x, cl, b), n) => ∃ a c v, e = .returned (.tuple #[rsV x cl a c v, .int .i64 (n : Int), .int .i64 0]) ∧ Hid (FdO w' w.heap.size a x.fs c ∧ Ow w' w.heap.size v b)
set_option maxRecDepth 100000 in
set_option maxHeartbeats 4000000 in
theorem ParseResponse_walk (ad : Nat → Addr) {a : Option Addr} {n c : Nat} {ds : List UInt8} (hn40 : n ≤ 1099511627776) (w : World) (hS : Sb w (.slice a n c) ds) (hW : GW w ad) : Calls Tryz.prog 32 #[.slice a n c] w fun e w' => PsR w w' e (rsP ds) ∧ Up w w' := by
  have HW := Hid.of hW
  have HA0 := Hid.of (at_new w 77 z5)
  have HU0 := Hid.of ((Up.refl w).alloc (.cells z5.toArray 77))
  have HRq := Hid.of (readResponse_walk ad hn40 (w.alloc (.cells z5.toArray 77)) (hS.up HU0.out) (hW.up HU0.out))
  clear hW hS
  go_enter Tryz.func32, Tryz.ntmps32
  go_wp2_with fail
  change Calls _ _ _ (w.alloc (.cells z5.toArray 77)) _
  generalize w.alloc (.cells z5.toArray 77) = w1 at *
  refine HRq.out.mono ?_
  rintro e w2 ⟨hR, h9⟩
  have HU2 := Hid.of (HU0.out.trans h9)
  have HA2 := Hid.of (HA0.out.up h9)
  clear h9 HRq
  cases hr : rsP ds with
  | error k =>
    rw [hr] at hR
    obtain rfl : e = _ := hR
    have hk := rsP_lt hr
    have hne := er_neq ad k
    have hge := er_grd ad k
    have HE := Hid.of hr
    unfold z5
    dsimp only
    clear hr
    go_wp2_with fail
    have HU3 := Hid.of (HU2.out.alloc (.cells #[.int .i64 0, .int .i64 0, .slice none 0 0, .slice none 0 0, .bool false] 77))
    refine (numberOf_any ad k hk _ (HW.out.up HU3.out).ge).mono ?_
    rintro e w4 ⟨rfl, h9⟩
    have HU4 := Hid.of (HU3.out.trans h9)
    have HA4 := Hid.of ((HA2.out.up ((Up.refl w2).alloc _)).up h9)
    clear h9
    dsimp only
    go_wp2_with (with_reducible show wpList _ _ _ ({ dst := _, op := Op.store 77 (Operand.tmp 2) _, type := _, pos := _, after := _, guard := _ } :: _) _ _; refine Shut.out ?_)
    show wpList _ _ _ _ _ _
    refine wpList_store_at rfl 77 _ _ rfl (w.heap.size) HA4.out z5 rfl rfl rfl (by kernel_rfl) (by kernel_rfl) ?_
    intro w8 hA8 hg8
    have HA8 := Hid.of hA8
    have HU8 := Hid.of (HU4.out.by hg8 (fun g hg => by have := Option.some.inj hg; omega))
    clear hA8 hg8
    simp only [Act.put]
    repeat go_step
    refine bodyPost_ret (result_cell_tmp2 Tryz.results32 _ _ (w.heap.size) z5 _ _ rfl rfl rfl HA8.out.range Tryz.underlying77 rfl (by kernel_rfl)) rfl ?_
    rw [HE.out]
    exact ⟨rfl, HU8.out⟩
  | ok q =>
    obtain ⟨⟨x, cl, b⟩, m⟩ := q
    rw [hr] at hR
    obtain ⟨af, cf, v, rfl, hO⟩ := hR
    have HF2 := Hid.of (ow_base hO.out.1 HU0.out.size)
    have HB2 := Hid.of (ow_base hO.out.2 HU0.out.size)
    have HE := Hid.of hr
    clear hO hr
    obtain ⟨aB, nB, cB, rfl⟩ := Sb.shape (Ow.sb HB2.out)
    obtain ⟨rl, hrl⟩ : ∃ rl, rl = rsV x cl af cf (.slice aB nB cB) := ⟨_, rfl⟩
    have HRl := Hid.of hrl
    rw [← hrl]
    obtain ⟨nf, hnf⟩ : ∃ nf, nf = x.fs.length := ⟨_, rfl⟩
    have HRv := Hid.of (show rsV x cl af cf (.slice aB nB cB) = .agg #[.int .i64 (x.st : Int), .int .i64 x.mi, .slice af nf cf, .slice aB nB cB, .bool cl] by unfold rsV; rw [hnf])
    rw [hrl, HRv.out]
    clear hrl hnf HRl
    have HA3 := Hid.of (at_new w2 77 [.int .i64 (x.st : Int), .int .i64 x.mi, .slice af nf cf, .slice aB nB cB, .bool cl])
    have HU3 := Hid.of ((Up.refl w2).alloc (.cells [.int .i64 (x.st : Int), .int .i64 x.mi, .slice af nf cf, .slice aB nB cB, .bool cl].toArray 77))
    go_wp2_with (with_reducible show wpList _ _ _ ({ dst := _, op := Op.load 77 _, type := _, pos := _, after := _, guard := _ } :: _) _ _; refine Shut.out ?_)
    show wpList _ _ _ _ _ _
    refine wpList_load_mid rfl _ _ rfl w2.heap.size 0 rfl [.int .i64 (x.st : Int), .int .i64 x.mi, .slice af nf cf, .slice aB nB cB, .bool cl] _ HA3.out.range Tryz.underlying77 rfl (by kernel_rfl) ?_
    simp only [Act.put, List.setIfInBounds_toArray, List.set_cons_zero, List.set_cons_succ]
    go_wp2_with (with_reducible show wpList _ _ _ ({ dst := _, op := Op.store 77 (Operand.tmp 2) _, type := _, pos := _, after := _, guard := _ } :: _) _ _; refine Shut.out ?_)
    show wpList _ _ _ _ _ _
    refine wpList_store_at rfl 77 _ _ rfl (w.heap.size) (HA2.out.up HU3.out) [.int .i64 (x.st : Int), .int .i64 x.mi, .slice af nf cf, .slice aB nB cB, .bool cl] rfl rfl rfl (by kernel_rfl) (by kernel_rfl) ?_
    intro w8 hA8 hg8
    have HA8 := Hid.of hA8
    have HU8 := Hid.of ((HU2.out.trans HU3.out).by hg8 (fun g hg => by have := Option.some.inj hg; omega))
    have HF8 := Hid.of ((ow_up HF2.out HU3.out).kept hg8 (.inr (own_ne HF2.out HA2.out (by decide))))
    have HO8 := Hid.of ((ow_up HB2.out HU3.out).kept hg8 (.inr (own_ne HB2.out HA2.out (by decide))))
    clear hA8 hg8
    simp only [Act.put]
    repeat go_step
    refine bodyPost_ret (result_cell_tmp2 Tryz.results32 _ _ (w.heap.size) [.int .i64 (x.st : Int), .int .i64 x.mi, .slice af nf cf, .slice aB nB cB, .bool cl] _ _ rfl rfl rfl HA8.out.range Tryz.underlying77 rfl (by kernel_rfl)) rfl ?_
    rw [HE.out]
    exact ⟨⟨af, cf, .slice aB nB cB, congrArg (fun y => Ending.returned (.tuple #[y, .int .i64 (m : Int), .int .i64 0])) HRv.out.symm, Hid.of ⟨HF8.out, HO8.out⟩⟩, HU8.out⟩
end Go.Proofs.YtabpgpbcnadgcaaGreatDoor
namespace Go.Proofs.YtabpgpbcnadgcaaGreatDoor
open Go.RowKit Go.Shelf TextNum
/-- what is told of a request -/
structure QD where
  m : ByteArray
  t : ByteArray
  mi : Int
  fs : List FD
  cl : Bool
  b : List UInt8
  n : Int
  e : Int
def datQ : Er ((Rq × List UInt8) × Nat) → QD
  | .error k => ⟨⟨#[]⟩, ⟨#[]⟩, 0, [], false, [], 0, numK k⟩
  | .ok ((x, b), n) => ⟨⟨x.m.toArray⟩, ⟨x.t.toArray⟩, x.mi, x.fs, cls (x.mi == 0) x.fs, b, (n : Int), 0⟩
/-- what is told of a response -/
structure SD where
  st : Int
  mi : Int
  fs : List FD
  cl : Bool
  b : List UInt8
  n : Int
  e : Int
def datS : Er ((Rs × Bool × List UInt8) × Nat) → SD
  | .error k => ⟨0, 0, [], false, [], 0, numK k⟩
  | .ok ((x, cl, b), n) => ⟨(x.st : Int), x.mi, x.fs, cl, b, (n : Int), 0⟩
def qV (d : QD) (a : Option Addr) (c : Nat) (v : Value) : Value := .agg #[.string d.m, .string d.t, .int .i64 d.mi, .slice a d.fs.length c, v, .bool d.cl]
def sV (d : SD) (a : Option Addr) (c : Nat) (v : Value) : Value := .agg #[.int .i64 d.st, .int .i64 d.mi, .slice a d.fs.length c, v, .bool d.cl]
/-- fields and their texts are small -/
def Sml (fs : List FD) : Prop := fs.length ≤ 1048576 ∧ ∀ f ∈ fs, f.n.size ≤ 1048576 ∧ f.v.size ≤ 1048576
theorem sml_nil : Sml [] := ⟨by simp, fun f hf => by cases hf⟩
theorem rdf_sml {l : List UInt8} {fs : List FD} (hl : l.length ≤ 16384) (h : rdf l = .ok fs) : Sml fs := by
  have h1 := rdf_small h
  exact ⟨by omega, fun f hf => by have := h1.2 f hf; omega⟩
theorem rqg_ok {st fl : List UInt8} {x : Rq} {way : Int} {len : Nat} (h : rqg st fl = .ok (x, way, len)) : rql st = .ok (x.m, x.t, x.mi) ∧ rdf fl = .ok x.fs ∧ ckh x.fs x.mi = none ∧ frm x.fs x.mi 0 = .ok (way, len) := by
  unfold rqg at h
  split at h
  · cases h
  · rename_i m t mi h1
    split at h
    · cases h
    · rename_i fs h2
      split at h
      · cases h
      · rename_i h3
        split at h
        · cases h
        · rename_i w l h4
          injection h with h
          injection h with e1 e2
          injection e2 with e2 e3
          subst e1 e2 e3
          exact ⟨h1, h2, h3, h4⟩
theorem rsg_ok {st fl : List UInt8} {x : Rs} {way : Int} {len : Nat} (h : rsg st fl = .ok (x, way, len)) : rsl st = .ok (x.st, x.mi) ∧ rdf fl = .ok x.fs ∧ rsF (x.st : Int) x.fs x.mi = .ok (way, len) := by
  unfold rsg at h
  split at h
  · cases h
  · rename_i s mi h1
    split at h
    · cases h
    · rename_i fs h2
      split at h
      · cases h
      · rename_i w l h4
        injection h with h
        injection h with e1 e2
        injection e2 with e2 e3
        subst e1 e2 e3
        exact ⟨h1, h2, h4⟩
theorem datQ_sml {l : List UInt8} : Sml (datQ (rqP l)).fs := by
  cases h : rqP l with
  | error k => exact sml_nil
  | ok q =>
    obtain ⟨⟨x, b⟩, n⟩ := q
    obtain ⟨st, fl, k, x', way, len, b', h1, h2, h3, h4, _⟩ := msg_ok h
    injection h4 with e1 e2
    subst e1
    exact rdf_sml (cHd_ok h1).2.2.2.1 (rqg_ok h2).2.1
theorem datS_sml {l : List UInt8} : Sml (datS (rsP l)).fs := by
  cases h : rsP l with
  | error k => exact sml_nil
  | ok q =>
    obtain ⟨⟨x, cl, b⟩, n⟩ := q
    obtain ⟨st, fl, k, x', way, len, b', h1, h2, h3, h4, _⟩ := msg_ok h
    injection h4 with e1 e2
    subst e1
    exact rdf_sml (cHd_ok h1).2.2.2.1 (rsg_ok h2).2.1
theorem fdl_nil (w : World) : FdL w none [] 0 := ⟨Nat.le_refl _, fun i h => by cases h⟩
theorem sb_nil' (w : World) : Sb w (.slice none 0 0) [] := ⟨none, 0, rfl, by simp, by simp, fun _ => ⟨rfl, rfl⟩, fun _ e => by cases e⟩
theorem fdo_nil (w : World) (N : Nat) : FdO w N none [] 0 := World.ownsRow_nil _ _ _ _
theorem ow_nil (w : World) (N : Nat) : Ow w N (.slice none 0 0) [] := World.ownsRow_nil _ _ _ _
theorem ParseRequest_dat (ad : Nat → Addr) {a : Option Addr} {n c : Nat} {ds : List UInt8} (hn40 : n ≤ 1099511627776) (w : World) (hS : Sb w (.slice a n c) ds) (hW : GW w ad) : Calls Tryz.prog 29 #[.slice a n c] w fun e w' => ∃ a c v, e = .returned (.tuple #[qV (datQ (rqP ds)) a c v, .int .i64 (datQ (rqP ds)).n, .int .i64 (datQ (rqP ds)).e]) ∧ Hid (FdO w' w.heap.size a (datQ (rqP ds)).fs c ∧ Ow w' w.heap.size v (datQ (rqP ds)).b) ∧ Up w w' := by
  refine (ParseRequest_walk ad hn40 w hS hW).mono ?_
  rintro e w' ⟨hR, hU⟩
  cases h : rqP ds with
  | error k =>
    rw [h] at hR
    obtain rfl : e = _ := hR
    exact ⟨none, 0, .slice none 0 0, rfl, Hid.of ⟨fdo_nil _ _, ow_nil _ _⟩, hU⟩
  | ok q =>
    obtain ⟨⟨x, b⟩, m⟩ := q
    rw [h] at hR
    obtain ⟨a, c, v, rfl, hO⟩ := hR
    exact ⟨a, c, v, rfl, hO, hU⟩
theorem ParseResponse_dat (ad : Nat → Addr) {a : Option Addr} {n c : Nat} {ds : List UInt8} (hn40 : n ≤ 1099511627776) (w : World) (hS : Sb w (.slice a n c) ds) (hW : GW w ad) : Calls Tryz.prog 32 #[.slice a n c] w fun e w' => ∃ a c v, e = .returned (.tuple #[sV (datS (rsP ds)) a c v, .int .i64 (datS (rsP ds)).n, .int .i64 (datS (rsP ds)).e]) ∧ Hid (FdO w' w.heap.size a (datS (rsP ds)).fs c ∧ Ow w' w.heap.size v (datS (rsP ds)).b) ∧ Up w w' := by
  refine (ParseResponse_walk ad hn40 w hS hW).mono ?_
  rintro e w' ⟨hR, hU⟩
  cases h : rsP ds with
  | error k =>
    rw [h] at hR
    obtain rfl : e = _ := hR
    exact ⟨none, 0, .slice none 0 0, rfl, Hid.of ⟨fdo_nil _ _, ow_nil _ _⟩, hU⟩
  | ok q =>
    obtain ⟨⟨x, cl, b⟩, m⟩ := q
    rw [h] at hR
    obtain ⟨a, c, v, rfl, hO⟩ := hR
    exact ⟨a, c, v, rfl, hO, hU⟩
/-! what holds of them -/
theorem numK_n : ∀ k, k < 24 → k ≠ 14 → (numK k = 140 ↔ k = 2) ∧ numK k ≠ 0 := by decide +kernel
theorem msg_14 {X Y : Type} {pl : Nat} {g : List UInt8 → List UInt8 → Er (X × Int × Nat)} {mk : X → Int → List UInt8 → Y} {l : List UInt8} {k : Nat} (hp : pl ≠ 2) (hg : ∀ st fl k, g st fl = .error k → k < 12) (h : msg pl g mk l = .error k) : k ≠ 14 := by
  unfold msg at h
  split at h
  · rename_i he
    injection h with h
    subst h
    have := cHd_er he
    omega
  · split at h
    · rename_i he
      injection h with h
      subst h
      have := hg _ _ _ he
      omega
    · split at h
      · rename_i he
        injection h with h
        subst h
        have := fcu_er he
        omega
      · cases h
theorem rqP_num {l : List UInt8} {k : Nat} (h : rqP l = .error k) : (numK k = 140 ↔ k = 2) ∧ numK k ≠ 0 := numK_n k (rqP_lt h) (msg_14 (by decide) (fun _ _ _ => rqg_er) h)
theorem rsP_num {l : List UInt8} {k : Nat} (h : rsP l = .error k) : (numK k = 140 ↔ k = 2) ∧ numK k ≠ 0 := numK_n k (rsP_lt h) (msg_14 (by decide) (fun _ _ _ => rsg_er) h)
theorem frm_way {fs : List FD} {mi u way : Int} {n : Nat} (h : frm fs mi u = .ok (way, n)) : (way = u ∧ fs.countP tls = 0) ∨ way = 3 ∨ way = 2 := by
  unfold frm frl at h
  split at h
  · cases h
  · split at h
    · cases h
    · split at h
      · rename_i h0
        injection h with h
        injection h with e1 e2
        exact .inl ⟨e1.symm, h0⟩
      · split at h
        · injection h with h
          injection h with e1 e2
          exact .inr (.inl e1.symm)
        · split at h
          · injection h with h
            injection h with e1 e2
            exact .inr (.inr e1.symm)
          · split at h <;> cases h
theorem rqP_ok {l : List UInt8} {x : Rq} {b : List UInt8} {n : Nat} (h : rqP l = .ok ((x, b), n)) (t : List UInt8) : rqP (l ++ t) = .ok ((x, b), n) ∧ n ≤ l.length := by
  obtain ⟨st, fl, k, x', way, len, b', h1, h2, h3, h4, h5, h6, h7, h8, h9⟩ := msg_ok h
  have hw : way ≠ 1 := by
    have := frm_way (rqg_ok h2).2.2.2
    omega
  exact ⟨(h9 t).1 hw, h6⟩
/-- more bytes behind a request -/
theorem fixQ (l t : List UInt8) : ((datQ (rqP l)).e ≠ 140 ∧ datQ (rqP (l ++ t)) = datQ (rqP l) ∧ (datQ (rqP l)).n ≤ (l.length : Int)) ∨ ((datQ (rqP l)).e = 140 ∧ (datQ (rqP l)).n = 0 ∧ (datQ (rqP l)).m = ⟨#[]⟩ ∧ ((datQ (rqP (l ++ t))).e = 0 → (l.length : Int) < (datQ (rqP (l ++ t))).n)) := by
  cases h : rqP l with
  | error k =>
    have hk := rqP_num h
    by_cases h2 : k = 2
    · subst h2
      refine .inr ⟨hk.1.2 rfl, rfl, rfl, fun he => ?_⟩
      cases hr : rqP (l ++ t) with
      | error k' =>
        rw [hr] at he
        exact absurd he (rqP_num hr).2
      | ok q =>
        obtain ⟨⟨x, b⟩, n⟩ := q
        have := msg_short h hr
        show (l.length : Int) < (n : Int)
        omega
    · refine .inl ⟨fun e => h2 (hk.1.1 e), ?_, ?_⟩
      · rw [show rqP (l ++ t) = .error k from msg_er h h2]
      · show (0 : Int) ≤ _
        omega
  | ok q =>
    obtain ⟨⟨x, b⟩, n⟩ := q
    have h1 := rqP_ok h t
    refine .inl ⟨by show (0 : Int) ≠ 140; decide, by rw [h1.1], ?_⟩
    show (n : Int) ≤ _
    omega
def clN : ByteArray := ⟨#[99, 111, 110, 116, 101, 110, 116, 45, 108, 101, 110, 103, 116, 104]⟩
def teN : ByteArray := ⟨#[116, 114, 97, 110, 115, 102, 101, 114, 45, 101, 110, 99, 111, 100, 105, 110, 103]⟩
theorem kdf_of {nm : ByteArray} (L : List UInt8) (h : lws nm.data.toList = L) : kdf nm = (match kdT.find? (fun p => lws p.1.data.toList == L) with | some p => p.2 | none => 0) := by
  unfold kdf
  have : kdp nm = fun p => lws p.1.data.toList == L := by
    funext p
    unfold kdp
    rw [h]
  rw [this]
  cases kdT.find? (fun p => lws p.1.data.toList == L) <;> rfl
theorem kdf_cl {nm : ByteArray} (h : lws nm.data.toList = lws clN.data.toList) : kdf nm = 4 := by
  rw [kdf_of _ h]
  decide +kernel
theorem kdf_te {nm : ByteArray} (h : lws nm.data.toList = lws teN.data.toList) : kdf nm = 3 := by
  rw [kdf_of _ h]
  decide +kernel
theorem fnd_none {fs : List FD} (h : fs.countP tls = 0) : fnd fs clN = none ∧ fnd fs teN = none := by
  rw [List.countP_eq_zero] at h
  unfold fnd
  rw [List.find?_eq_none, List.find?_eq_none]
  refine ⟨fun f hf e => h f hf ?_, fun f hf e => h f hf ?_⟩
  · unfold tls
    rw [kdf_cl (by simpa using e)]
    rfl
  · unfold tls
    rw [kdf_te (by simpa using e)]
    rfl
/-- more bytes behind a response -/
theorem fixS (l t : List UInt8) :
    ((datS (rsP l)).e = 0 ∧ fnd (datS (rsP l)).fs clN = none ∧ fnd (datS (rsP l)).fs teN = none ∧ (datS (rsP l)).n ≤ (l.length : Int) ∧ ((datS (rsP (l ++ t))).e = 0 → (datS (rsP (l ++ t))).st = (datS (rsP l)).st ∧ (datS (rsP (l ++ t))).fs = (datS (rsP l)).fs)) ∨
    ((datS (rsP l)).e = 140 ∧ (datS (rsP l)).n = 0) ∨
    (((datS (rsP l)).e = 0 → (fnd (datS (rsP l)).fs clN).isSome = true ∨ (fnd (datS (rsP l)).fs teN).isSome = true) ∧ (datS (rsP l)).e ≠ 140 ∧ datS (rsP (l ++ t)) = datS (rsP l) ∧ (datS (rsP l)).n ≤ (l.length : Int)) := by
  cases h : rsP l with
  | error k =>
    have hk := rsP_num h
    by_cases h2 : k = 2
    · subst h2
      exact .inr (.inl ⟨hk.1.2 rfl, rfl⟩)
    · refine .inr (.inr ⟨fun e => absurd e hk.2, fun e => h2 (hk.1.1 e), ?_, ?_⟩)
      · rw [show rsP (l ++ t) = .error k from msg_er h h2]
      · show (0 : Int) ≤ _
        omega
  | ok q =>
    obtain ⟨⟨x, cl, b⟩, n⟩ := q
    obtain ⟨st, fl, k, x', way, len, b', h1, h2, h3, h4, h5, h6, h7, h8, h9⟩ := msg_ok h
    have hx : x = x' := by injection h4
    subst hx
    by_cases hw : way = 1
    · subst hw
      have h10 := (rsg_ok h2).2.2
      unfold rsF at h10
      split at h10
      · injection h10 with e
        injection e with e1 e2
        cases e1
      · have h11 := frm_way h10
        have h12 : x.fs.countP tls = 0 := by omega
        have h13 := fnd_none h12
        refine .inl ⟨rfl, h13.1, h13.2, ?_, fun he => ?_⟩
        · show (n : Int) ≤ _
          omega
        · cases hr : rsP (l ++ t) with
          | error k' =>
            rw [hr] at he
            exact absurd he (rsP_num hr).2
          | ok q =>
            obtain ⟨y, n'⟩ := q
            obtain ⟨b2, hb2⟩ := (h9 t).2 y n' hr
            subst hb2
            exact ⟨rfl, rfl⟩
    · have h10 : rsP (l ++ t) = .ok ((x, cl, b), n) := (h9 t).1 hw
      by_cases hs : (fnd x.fs clN).isSome = true ∨ (fnd x.fs teN).isSome = true
      · refine .inr (.inr ⟨fun _ => hs, by show (0 : Int) ≠ 140; decide, by rw [h10], ?_⟩)
        show (n : Int) ≤ _
        omega
      · have hs1 : fnd x.fs clN = none := by
          cases h13 : fnd x.fs clN with
          | none => rfl
          | some f => exact absurd (.inl (by rw [h13]; rfl)) hs
        have hs2 : fnd x.fs teN = none := by
          cases h13 : fnd x.fs teN with
          | none => rfl
          | some f => exact absurd (.inr (by rw [h13]; rfl)) hs
        refine .inl ⟨rfl, hs1, hs2, ?_, fun _ => ?_⟩
        · show (n : Int) ≤ _
          omega
        · rw [h10]
          exact ⟨rfl, rfl⟩
end Go.Proofs.YtabpgpbcnadgcaaGreatDoor
namespace Go.Proofs.YtabpgpbcnadgcaaGreatDoor
open Go.RowKit Go.Shelf TextNum
def lsz (ls : List (List UInt8)) : Nat := (ls.map fun x => x.length + 1).sum
theorem lsz_mem : ∀ {ls : List (List UInt8)} {x : List UInt8}, x ∈ ls → x.length + 1 ≤ lsz ls
  | y :: r, x, h => by
    unfold lsz
    rw [List.map_cons, List.sum_cons]
    rcases List.mem_cons.1 h with rfl | h
    · omega
    · have := lsz_mem h
      unfold lsz at this
      omega
theorem lsz_len : ∀ (ls : List (List UInt8)), ls.length ≤ lsz ls
  | [] => Nat.zero_le _
  | y :: r => by
    have := lsz_len r
    unfold lsz at *
    rw [List.map_cons, List.sum_cons, List.length_cons]
    omega
theorem rfl'_small : ∀ (f : Nat) (l : List UInt8) (ls : List (List UInt8)) (p a : Nat), rfl' f l = some (ls, p, a) → lsz ls ≤ p ∧ p < a ∧ a ≤ l.length
  | 0, _, _, _, _, h => by cases h
  | f + 1, l, ls, p, a, h => by
    unfold rfl' at h
    cases hf : fnl l with
    | none => rw [hf] at h; cases h
    | some i =>
      have hil := fnl_lt hf
      rw [hf] at h
      dsimp only at h
      split at h
      · injection h with h; injection h with h0 h; injection h with h1 h2
        subst h0 h1 h2
        exact ⟨Nat.le_refl _, by omega, by omega⟩
      · obtain ⟨⟨ls', p', a'⟩, h1, h2⟩ := Option.map_eq_some_iff.1 h
        injection h2 with h3 h2; injection h2 with h4 h5
        dsimp only at h3 h4 h5
        have ih := rfl'_small f _ _ _ _ h1
        rw [List.length_drop] at ih
        have ht := tcr_len (l.take i)
        rw [List.length_take] at ht
        subst h3 h4 h5
        unfold lsz at *
        rw [List.map_cons, List.sum_cons]
        omega
theorem rHd_small {pl : Nat} {l st : List UInt8} {ls : List (List UInt8)} {k : Nat} (h : rHd pl l = .ok (st, ls, k)) : st.length ≤ 8000 ∧ lsz ls ≤ 16384 ∧ k ≤ l.length := by
  unfold rHd at h
  cases hf : fnl l with
  | none => rw [hf] at h; dsimp only at h; split at h <;> cases h
  | some i =>
    have hil := fnl_lt hf
    rw [hf] at h
    dsimp only at h
    split at h
    · cases h
    · rename_i h8
      cases hr : rF (l.drop (i + 1)) with
      | none => rw [hr] at h; dsimp only at h; split at h <;> cases h
      | some q =>
        obtain ⟨ls', p, a⟩ := q
        rw [hr] at h
        dsimp only at h
        split at h
        · cases h
        · injection h with h
          injection h with e1 e2
          injection e2 with e2 e3
          subst e1 e2 e3
          have h1 := rfl'_small _ _ _ _ _ hr
          rw [List.length_drop] at h1
          exact ⟨by omega, by omega, by omega⟩
theorem rHd_er {pl k : Nat} {l : List UInt8} (hpl : pl < 12) (h : rHd pl l = .error k) : k < 24 := by
  unfold rHd at h
  split at h
  · split at h <;> (injection h with h; omega)
  · split at h
    · injection h with h; omega
    · split at h
      · split at h <;> (injection h with h; omega)
      · split at h
        · injection h with h; omega
        · cases h
theorem fll_small (s : List UInt8) : (fll s).n.size + (fll s).v.size ≤ s.length := by
  have e1 : (fll s).n.size = (c1 58 s).length := by unfold fll; simp [ByteArray.size]
  have e2 : (fll s).v.size = (trm (c2 58 s)).length := by unfold fll; simp [ByteArray.size]
  rw [e1, e2]
  have h1 := trm_len (c2 58 s)
  rcases cut_cases 58 s with ⟨_, hc⟩ | ⟨a, b, _, rfl, hc⟩
  · have k1 : c1 58 s = s := by unfold c1; rw [hc]
    have k2 : c2 58 s = [] := by unfold c2; rw [hc]
    rw [k2] at h1 ⊢
    rw [k1]
    simp only [List.length_nil] at h1
    omega
  · have k1 : c1 58 (a ++ 58 :: b) = a := by unfold c1; rw [hc]
    have k2 : c2 58 (a ++ 58 :: b) = b := by unfold c2; rw [hc]
    rw [k2] at h1 ⊢
    rw [k1, List.length_append, List.length_cons]
    omega
theorem szs_fll : ∀ (ls : List (List UInt8)), szs (ls.map fll) ≤ 2 + 4 * lsz ls
  | [] => by decide
  | y :: r => by
    have ih := szs_fll r
    have h1 := fll_small y
    unfold lsz at *
    unfold szs at *
    rw [List.map_cons, List.map_cons, List.sum_cons, List.map_cons, List.sum_cons]
    have h2 : szf (fll y) = (fll y).n.size + (fll y).v.size + 4 := rfl
    omega
theorem rfd_small {ls : List (List UInt8)} {fs : List FD} (hl : lsz ls ≤ 16384) (h : rfd ls = .ok fs) : szs fs ≤ 65538 := by
  unfold rfd at h
  split at h
  · cases h
  · split at h
    · injection h with h
      subst h
      have := szs_fll ls
      omega
    · cases h
theorem rfd_er {ls : List (List UInt8)} {k : Nat} (h : rfd ls = .error k) : k = 1 ∨ k = 5 := by
  unfold rfd at h
  split at h
  · injection h with h; exact .inl h.symm
  · split at h
    · cases h
    · injection h with h; exact .inr h.symm
theorem dgl_ok {l : List UInt8} {n : Int} (h : dgl l = .ok n) : 0 ≤ n ∧ n ≤ 1048576 := by
  unfold dgl at h
  split at h
  · split at h
    · injection h with h; subst h; omega
    · cases h
  · cases h
theorem dgl_er {l : List UInt8} {k : Nat} (h : dgl l = .error k) : k = 5 ∨ k = 7 := by
  unfold dgl at h
  split at h
  · split at h
    · cases h
    · injection h with h; exact .inr h.symm
  · injection h with h; exact .inl h.symm
theorem rln_ok {fs : List FD} {mi n : Int} (h : rln fs mi = .ok n) : n = -2 ∨ n = -1 ∨ (0 ≤ n ∧ n ≤ 1048576) := by
  unfold rln at h
  split at h
  · split at h
    · cases h
    · injection h with h; exact .inl h.symm
  · injection h with h; exact .inr (.inl h.symm)
  · exact .inr (.inr (dgl_ok h))
  · cases h
theorem rln_er {fs : List FD} {mi : Int} {k : Nat} (h : rln fs mi = .error k) : k = 5 ∨ k = 7 := by
  unfold rln at h
  split at h
  · split at h
    · injection h with h; exact .inl h.symm
    · cases h
  · cases h
  · exact dgl_er h
  · injection h with h; exact .inl h.symm
theorem bdy_er {n : Int} {l : List UInt8} {k : Nat} (h : bdy n l = .error k) : k < 24 := by
  unfold bdy at h
  split at h
  · cases hu : unk l with
    | error q =>
      rw [hu] at h
      injection h with h
      rcases unk_er hu with rfl | rfl | rfl | rfl
      · rw [if_pos rfl] at h; omega
      · rw [if_neg (by decide)] at h; omega
      · rw [if_neg (by decide)] at h; omega
      · rw [if_neg (by decide)] at h; omega
    | ok p => rw [hu] at h; cases h
  · split at h
    · injection h with h; omega
    · cases h
theorem numK_ne {k : Nat} (h : k < 24) : (numK k != 0) = true := by
  have : ∀ k, k < 24 → (numK k != 0) = true := by decide
  exact this k h
/-- what the head of a request tells, by the definition -/
def rqR (l : List UInt8) : Er ((Rq × List UInt8) × Nat) := match rHd 9 l with
  | .error k => .error k
  | .ok (st, ls, k) => match rql st with
    | .error e => .error e
    | .ok (m, t, mi) => match rfd ls with
      | .error e => .error e
      | .ok fs => match ckh fs mi with
        | some e => .error e
        | none => match rln fs mi with
          | .error e => .error e
          | .ok n => match bdy (if n = -1 then 0 else n) (l.drop k) with
            | .error e => .error e
            | .ok (b, j) => .ok ((⟨m, t, mi, fs⟩, b), k + j)
theorem fcu_bdy {fs : List FD} {mi n : Int} (h : rln fs mi = .ok n) (hs : ∀ f ∈ fs, f.v.size ≤ 1048576) (l : List UInt8) : ∃ way len, frm fs mi 0 = .ok (way, len) ∧ fcu way len l = bdy (if n = -1 then 0 else n) l := by
  have h1 := frm_rln fs mi 0 hs
  rw [h] at h1
  dsimp only at h1
  rcases rln_ok h with rfl | rfl | ⟨h0, hm⟩
  · rw [if_pos rfl] at h1
    refine ⟨3, 0, h1, ?_⟩
    rw [show (if (-2 : Int) = -1 then (0 : Int) else -2) = -2 by decide]
    unfold fcu bdy
    rw [if_pos rfl, if_pos rfl]
    cases unk l <;> rfl
  · rw [if_neg (by decide), if_pos rfl] at h1
    refine ⟨0, 0, h1, ?_⟩
    rw [show (if (-1 : Int) = -1 then (0 : Int) else -1) = 0 by decide]
    unfold fcu bdy
    rw [if_neg (by decide), if_neg (by decide), if_neg (by decide), if_neg (by decide), if_neg (by simp)]
    rfl
  · rw [if_neg (by omega), if_neg (by omega)] at h1
    refine ⟨2, n.toNat, h1, ?_⟩
    rw [if_neg (show ¬ n = -1 by omega)]
    unfold fcu bdy
    rw [if_neg (by decide), if_neg (by decide), if_pos rfl, if_neg (show ¬ n = -2 by omega)]
theorem rqP_rqR (l : List UInt8) : rqP l = rqR l := by
  have h := cHd_ref (α := Er ((Rq × List UInt8) × Nat)) 9 l (fun k => .error k) (fun st R k => match rql st with
    | .error e => .error e
    | .ok (m, t, mi) => match R with
      | .error e => .error e
      | .ok fs => match ckh fs mi with
        | some e => .error e
        | none => match frm fs mi 0 with
          | .error e => .error e
          | .ok (way, len) => match fcu way len (l.drop k) with
            | .error e => .error e
            | .ok (b, j) => .ok ((⟨m, t, mi, fs⟩, b), k + j))
  have e1 : rqP l = match cHd 9 l with
    | .error k => .error k
    | .ok (st, fl, k) => match rql st with
      | .error e => .error e
      | .ok (m, t, mi) => match rdf fl with
        | .error e => .error e
        | .ok fs => match ckh fs mi with
          | some e => .error e
          | none => match frm fs mi 0 with
            | .error e => .error e
            | .ok (way, len) => match fcu way len (l.drop k) with
              | .error e => .error e
              | .ok (b, j) => .ok ((⟨m, t, mi, fs⟩, b), k + j) := by
    unfold rqP msg rqg
    cases cHd 9 l with
    | error k => rfl
    | ok q =>
      obtain ⟨st, fl, k⟩ := q
      dsimp only
      cases rql st with
      | error e => rfl
      | ok q =>
        obtain ⟨m, t, mi⟩ := q
        dsimp only
        cases rdf fl with
        | error e => rfl
        | ok fs =>
          dsimp only
          cases ckh fs mi with
          | some e => rfl
          | none =>
            dsimp only
            cases frm fs mi 0 with
            | error e => rfl
            | ok q => rfl
  refine e1.trans (Eq.trans (by exact h) ?_)
  unfold rqR
  cases hr : rHd 9 l with
  | error k => rfl
  | ok q =>
    obtain ⟨st, ls, k⟩ := q
    have hsm := rHd_small hr
    dsimp only
    cases rql st with
    | error e => rfl
    | ok q =>
      obtain ⟨m, t, mi⟩ := q
      dsimp only
      cases hfd : rfd ls with
      | error e => rfl
      | ok fs =>
        have hsz := rfd_small hsm.2.1 hfd
        have hs : ∀ f ∈ fs, f.v.size ≤ 1048576 := fun f hf => by have := szs_mem fs hf; omega
        dsimp only
        cases ckh fs mi with
        | some e => rfl
        | none =>
          dsimp only
          cases hl : rln fs mi with
          | error e =>
            have h1 := frm_rln fs mi 0 hs
            rw [hl] at h1
            rw [h1]
          | ok n =>
            obtain ⟨way, len, h1, h2⟩ := fcu_bdy hl hs (l.drop k)
            rw [h1]
            dsimp only
            rw [h2]
end Go.Proofs.YtabpgpbcnadgcaaGreatDoor
namespace Go.Proofs.YtabpgpbcnadgcaaGreatDoor
open Go.RowKit Go.Shelf TextNum
def RPqR (w w' : World) (e : Ending) : Er ((Rq × List UInt8) × Nat) → Prop
  | .error k => e = .returned (.tuple #[.agg z6.toArray, .int .i64 0, .int .i64 (numK k)])
  | .ok ((x, b), n) => ∃ a c v, e = .returned (.tuple #[rqV x a c v, .int .i64 (n : Int), .int .i64 0]) ∧ Hid (RfO w' w.heap.size a x.fs c ∧ Sb w' v b)
theorem vrs_neg {d : List UInt8} (h : vok d = false) : vrs d = (-1, -1) := by unfold vrs; rw [h]; rfl
theorem vrs_pos {d : List UInt8} (h : vok d = true) : 0 ≤ (vrs d).1 ∧ (vrs d).1 ≤ 9 ∧ 0 ≤ (vrs d).2 ∧ (vrs d).2 ≤ 9 := by
  unfold vrs
  rw [if_pos h]
  obtain ⟨x, y, hx, hy, rfl⟩ := vok_form h
  have h1 := isD_nat hx
  have h2 := isD_nat hy
  rw [show ([72, 84, 84, 80, 47, x, 46, y] : List UInt8).getD 5 0 = x from rfl, show ([72, 84, 84, 80, 47, x, 46, y] : List UInt8).getD 7 0 = y from rfl]
  dsimp only
  omega
theorem RfO.grow {w w' : World} {N b : Nat} {a : Option Addr} {fs : List FD} {c : Nat} (h : RfO w N a fs c) (hg : w.grownBy w' (some b)) (hb : b < N) : RfO w' N a fs c := by
  refine ⟨h.1, ?_⟩
  rcases h.2 with h0 | ⟨g, cap, cur, e1, e2, e3, e4⟩
  · exact .inl h0
  · exact .inr ⟨g, cap, cur, e1, e2, by rw [hg.block g (by
      rcases Nat.lt_or_ge g w.heap.size with h' | h'
      · exact h'
      · simp [Array.getElem?_eq_none h'] at e3) (fun e => by have := Option.some.inj e; omega)]; exact e3, e4⟩
end Go.Proofs.YtabpgpbcnadgcaaGreatDoor
namespace Go.Proofs.YtabpgpbcnadgcaaGreatDoor
open Go.RowKit Go.Shelf TextNum
set_option maxRecDepth 100000 in
set_option maxHeartbeats 2000000 in
theorem sameFields_same (a1 a2 : Option Addr) (fs : List FD) (c1' c2' n : Nat) (hn : fs.length = n) (hl : n ≤ 1048576) (w : World) (h1 : FdL w a1 fs c1') (h2 : FdL w a2 fs c2') :
    Calls Tryz.prog 58 #[.slice a1 n c1', .slice a2 n c2'] w fun e w' => e = .returned (.bool true) ∧ Up w w' := by
  have HF1 := Hid.of h1
  have HF2 := Hid.of h2
  have HNn := Hid.of hn
  have hcap1 := h1.cap
  have hcap2 := h2.cap
  rw [hn] at hcap1 hcap2
  clear h1 h2 hn
  go_enter Tryz.func58, Tryz.ntmps58
  go_wp2
  go_loopw [5] (fun v5 wr => ∃ i : Nat, v5 = .int .i64 (i : Int) ∧ i ≤ n ∧ Hid (Up w wr)) (fun v5 _ => n - (intOf v5).toNat)
  case atStart => exact ⟨0, rfl, Nat.zero_le _, Hid.of (Up.refl _)⟩
  case round =>
    obtain ⟨i, rfl, hi, hU⟩ := hrel
    have HU := Hid.of hU.out
    clear hU
    by_cases hil : i < n
    · have hilz : (i : Int) < (n : Int) := by omega
      have hil2 : i < fs.length := by rw [HNn.out]; exact hil
      obtain ⟨b1, o1, rfl, k1, k2⟩ := HF1.out.cells i hil2
      obtain ⟨b2, o2, rfl, k3, k4⟩ := HF2.out.cells i hil2
      obtain ⟨f, hf⟩ : ∃ f, fs[i] = f := ⟨_, rfl⟩
      rw [hf] at k1 k2 k3 k4
      have HC1 := Hid.of (HU.out.cell k1)
      have HC2 := Hid.of (HU.out.cell k2)
      have HC3 := Hid.of (HU.out.cell k3)
      have HC4 := Hid.of (HU.out.cell k4)
      clear hf k1 k2 k3 k4 hil2
      go_wp2
      refine wp_region_held_drew (S := fun w2 => Up wr w2) (by kernel_rfl) (Up.refl wr).drew (fun hS => ?_)
      refine wpAnyH_take (i := 0) (oi := { dst := some 17, op := Go.Op.move (Go.Operand.tmp 0), type := 36, pos := "law.go:146", after := #[], guard := none }) (v := .slice (some ⟨b1, o1, none⟩) n c1') rfl (by kernel_rfl) (by kernel_rfl) (by kernel_rfl) (fun _ _ _ h => h) (Or.inl ⟨by kernel_rfl, ?_⟩) hS ?_
      · intro w5 hSw
        clear hSw hS
        go_simp
      simp only [Act.put, List.setIfInBounds_toArray, List.set_cons_zero, List.set_cons_succ]
      refine wpAnyH_take (i := 1) (oi := { dst := some 18, op := Go.Op.move (Go.Operand.tmp 5), type := 3, pos := "law.go:146", after := #[], guard := none }) (v := .int .i64 (i : Int)) rfl (by kernel_rfl) (by kernel_rfl) (by kernel_rfl) (fun _ _ _ h => h) (Or.inl ⟨by kernel_rfl, ?_⟩) hS ?_
      · intro w5 hSw
        clear hSw hS
        go_simp
      simp only [Act.put, List.setIfInBounds_toArray, List.set_cons_zero, List.set_cons_succ]
      refine wpAnyH_take (i := 2) (oi := { dst := some 19, op := Go.Op.indexAddr 36 (Go.Operand.tmp 17) (Go.Operand.tmp 18), type := 0, pos := "law.go:146", after := #[{ on := 0, ground := Go.Ground.data }, { on := 1, ground := Go.Ground.data }], guard := none }) (v := .pointer (some ⟨b1, o1 + i * 2, none⟩)) rfl (by kernel_rfl) (by kernel_rfl) (by kernel_rfl) (fun _ _ _ h => h) (Or.inl ⟨by kernel_rfl, ?_⟩) hS ?_
      · intro w5 hSw
        clear hSw hS
        exact exec_idxFd i hil rfl rfl rfl
      simp only [Act.put, List.setIfInBounds_toArray, List.set_cons_zero, List.set_cons_succ]
      refine wpAnyH_take (i := 3) (oi := { dst := some 20, op := Go.Op.fieldAddr 89 (Go.Operand.tmp 19) 0, type := 0, pos := "law.go:146", after := #[{ on := 2, ground := Go.Ground.data }], guard := none }) (v := .pointer (some ⟨b1, o1 + i * 2, none⟩)) rfl (by kernel_rfl) (by kernel_rfl) (by kernel_rfl) (fun _ _ _ h => h) (Or.inl ⟨by kernel_rfl, ?_⟩) hS ?_
      · intro w5 hSw
        clear hSw hS
        go_simp
      simp only [Act.put, List.setIfInBounds_toArray, List.set_cons_zero, List.set_cons_succ]
      refine wpAnyH_take (i := 4) (oi := { dst := some 21, op := Go.Op.load 9 (Go.Operand.tmp 20), type := 9, pos := "law.go:146", after := #[{ on := 3, ground := Go.Ground.data }], guard := none }) (v := .string f.n) rfl (by kernel_rfl) (by kernel_rfl) (by kernel_rfl) (fun _ _ _ h => h) (Or.inl ⟨by kernel_rfl, ?_⟩) hS ?_
      · intro w5 hSw
        have h0 : w5.cell? ⟨b1, o1 + i * 2, none⟩ = _ := hSw.cell HC1.out
        clear hSw hS
        go_simp
      simp only [Act.put, List.setIfInBounds_toArray, List.set_cons_zero, List.set_cons_succ]
      refine wpAnyH_take (i := 5) (oi := { dst := some 22, op := Go.Op.move (Go.Operand.tmp 1), type := 54, pos := "law.go:146", after := #[], guard := none }) (v := .slice (some ⟨b2, o2, none⟩) n c2') rfl (by kernel_rfl) (by kernel_rfl) (by kernel_rfl) (fun _ _ _ h => h) (Or.inl ⟨by kernel_rfl, ?_⟩) hS ?_
      · intro w5 hSw
        clear hSw hS
        go_simp
      simp only [Act.put, List.setIfInBounds_toArray, List.set_cons_zero, List.set_cons_succ]
      refine wpAnyH_take (i := 6) (oi := { dst := some 23, op := Go.Op.move (Go.Operand.tmp 5), type := 3, pos := "law.go:146", after := #[], guard := none }) (v := .int .i64 (i : Int)) rfl (by kernel_rfl) (by kernel_rfl) (by kernel_rfl) (fun _ _ _ h => h) (Or.inl ⟨by kernel_rfl, ?_⟩) hS ?_
      · intro w5 hSw
        clear hSw hS
        go_simp
      simp only [Act.put, List.setIfInBounds_toArray, List.set_cons_zero, List.set_cons_succ]
      refine wpAnyH_take (i := 7) (oi := { dst := some 24, op := Go.Op.indexAddr 54 (Go.Operand.tmp 22) (Go.Operand.tmp 23), type := 0, pos := "law.go:146", after := #[{ on := 5, ground := Go.Ground.data }, { on := 6, ground := Go.Ground.data }], guard := none }) (v := .pointer (some ⟨b2, o2 + i * 2, none⟩)) rfl (by kernel_rfl) (by kernel_rfl) (by kernel_rfl) (fun _ _ _ h => h) (Or.inl ⟨by kernel_rfl, ?_⟩) hS ?_
      · intro w5 hSw
        clear hSw hS
        exact exec_idxRf i hil rfl rfl rfl
      simp only [Act.put, List.setIfInBounds_toArray, List.set_cons_zero, List.set_cons_succ]
      refine wpAnyH_take (i := 8) (oi := { dst := some 25, op := Go.Op.fieldAddr 102 (Go.Operand.tmp 24) 0, type := 0, pos := "law.go:146", after := #[{ on := 7, ground := Go.Ground.data }], guard := none }) (v := .pointer (some ⟨b2, o2 + i * 2, none⟩)) rfl (by kernel_rfl) (by kernel_rfl) (by kernel_rfl) (fun _ _ _ h => h) (Or.inl ⟨by kernel_rfl, ?_⟩) hS ?_
      · intro w5 hSw
        clear hSw hS
        go_simp
      simp only [Act.put, List.setIfInBounds_toArray, List.set_cons_zero, List.set_cons_succ]
      refine wpAnyH_take (i := 9) (oi := { dst := some 26, op := Go.Op.load 9 (Go.Operand.tmp 25), type := 9, pos := "law.go:146", after := #[{ on := 8, ground := Go.Ground.data }], guard := none }) (v := .string f.n) rfl (by kernel_rfl) (by kernel_rfl) (by kernel_rfl) (fun _ _ _ h => h) (Or.inl ⟨by kernel_rfl, ?_⟩) hS ?_
      · intro w5 hSw
        have h0 : w5.cell? ⟨b2, o2 + i * 2, none⟩ = _ := hSw.cell HC3.out
        clear hSw hS
        go_simp
      simp only [Act.put, List.setIfInBounds_toArray, List.set_cons_zero, List.set_cons_succ]
      refine wpAnyH_take (i := 10) (oi := { dst := some 27, op := Go.Op.binOp Go.BinOp.neq 9 (Go.Operand.tmp 21) (Go.Operand.tmp 26) 9, type := 4, pos := "law.go:146", after := #[{ on := 4, ground := Go.Ground.data }, { on := 9, ground := Go.Ground.data }], guard := none }) (v := .bool false) rfl (by kernel_rfl) (by kernel_rfl) (by kernel_rfl) (fun _ _ _ h => h) (Or.inl ⟨by kernel_rfl, ?_⟩) hS ?_
      · intro w5 hSw
        clear hSw hS
        go_simp
      simp only [Act.put, List.setIfInBounds_toArray, List.set_cons_zero, List.set_cons_succ]
      refine wpAnyH_take (i := 11) (oi := { dst := some 28, op := Go.Op.move (Go.Operand.tmp 27), type := 4, pos := "law.go:146", after := #[{ on := 10, ground := Go.Ground.data }], guard := none }) (v := .bool false) rfl (by kernel_rfl) (by kernel_rfl) (by kernel_rfl) (fun _ _ _ h => h) (Or.inl ⟨by kernel_rfl, ?_⟩) hS ?_
      · intro w5 hSw
        clear hSw hS
        go_simp
      simp only [Act.put, List.setIfInBounds_toArray, List.set_cons_zero, List.set_cons_succ]
      refine wpAnyH_take (i := 12) (oi := { dst := some 29, op := Go.Op.move (Go.Operand.tmp 0), type := 36, pos := "law.go:146", after := #[{ on := 11, ground := Go.Ground.guard }], guard := some (11, false) }) (v := .slice (some ⟨b1, o1, none⟩) n c1') rfl (by kernel_rfl) (by kernel_rfl) (by kernel_rfl) (fun _ _ _ h => h) (Or.inl ⟨by kernel_rfl, ?_⟩) hS ?_
      · intro w5 hSw
        clear hSw hS
        go_simp
      simp only [Act.put, List.setIfInBounds_toArray, List.set_cons_zero, List.set_cons_succ]
      refine wpAnyH_take (i := 13) (oi := { dst := some 30, op := Go.Op.move (Go.Operand.tmp 5), type := 3, pos := "law.go:146", after := #[{ on := 11, ground := Go.Ground.guard }], guard := some (11, false) }) (v := .int .i64 (i : Int)) rfl (by kernel_rfl) (by kernel_rfl) (by kernel_rfl) (fun _ _ _ h => h) (Or.inl ⟨by kernel_rfl, ?_⟩) hS ?_
      · intro w5 hSw
        clear hSw hS
        go_simp
      simp only [Act.put, List.setIfInBounds_toArray, List.set_cons_zero, List.set_cons_succ]
      refine wpAnyH_take (i := 14) (oi := { dst := some 31, op := Go.Op.indexAddr 36 (Go.Operand.tmp 29) (Go.Operand.tmp 30), type := 0, pos := "law.go:146", after := #[{ on := 12, ground := Go.Ground.data }, { on := 13, ground := Go.Ground.data }, { on := 11, ground := Go.Ground.guard }], guard := some (11, false) }) (v := .pointer (some ⟨b1, o1 + i * 2, none⟩)) rfl (by kernel_rfl) (by kernel_rfl) (by kernel_rfl) (fun _ _ _ h => h) (Or.inl ⟨by kernel_rfl, ?_⟩) hS ?_
      · intro w5 hSw
        clear hSw hS
        exact exec_idxFd i hil rfl rfl rfl
      simp only [Act.put, List.setIfInBounds_toArray, List.set_cons_zero, List.set_cons_succ]
      refine wpAnyH_take (i := 15) (oi := { dst := some 32, op := Go.Op.fieldAddr 89 (Go.Operand.tmp 31) 1, type := 0, pos := "law.go:146", after := #[{ on := 14, ground := Go.Ground.data }, { on := 11, ground := Go.Ground.guard }], guard := some (11, false) }) (v := .pointer (some ⟨b1, o1 + i * 2 + 1, none⟩)) rfl (by kernel_rfl) (by kernel_rfl) (by kernel_rfl) (fun _ _ _ h => h) (Or.inl ⟨by kernel_rfl, ?_⟩) hS ?_
      · intro w5 hSw
        clear hSw hS
        go_simp
      simp only [Act.put, List.setIfInBounds_toArray, List.set_cons_zero, List.set_cons_succ]
      refine wpAnyH_take (i := 16) (oi := { dst := some 33, op := Go.Op.load 9 (Go.Operand.tmp 32), type := 9, pos := "law.go:146", after := #[{ on := 15, ground := Go.Ground.data }, { on := 11, ground := Go.Ground.guard }], guard := some (11, false) }) (v := .string f.v) rfl (by kernel_rfl) (by kernel_rfl) (by kernel_rfl) (fun _ _ _ h => h) (Or.inl ⟨by kernel_rfl, ?_⟩) hS ?_
      · intro w5 hSw
        have h0 : w5.cell? ⟨b1, o1 + i * 2 + 1, none⟩ = _ := hSw.cell HC2.out
        clear hSw hS
        go_simp
      simp only [Act.put, List.setIfInBounds_toArray, List.set_cons_zero, List.set_cons_succ]
      refine wpAnyH_take (i := 17) (oi := { dst := some 34, op := Go.Op.move (Go.Operand.tmp 1), type := 54, pos := "law.go:146", after := #[{ on := 11, ground := Go.Ground.guard }], guard := some (11, false) }) (v := .slice (some ⟨b2, o2, none⟩) n c2') rfl (by kernel_rfl) (by kernel_rfl) (by kernel_rfl) (fun _ _ _ h => h) (Or.inl ⟨by kernel_rfl, ?_⟩) hS ?_
      · intro w5 hSw
        clear hSw hS
        go_simp
      simp only [Act.put, List.setIfInBounds_toArray, List.set_cons_zero, List.set_cons_succ]
      refine wpAnyH_take (i := 18) (oi := { dst := some 35, op := Go.Op.move (Go.Operand.tmp 5), type := 3, pos := "law.go:146", after := #[{ on := 11, ground := Go.Ground.guard }], guard := some (11, false) }) (v := .int .i64 (i : Int)) rfl (by kernel_rfl) (by kernel_rfl) (by kernel_rfl) (fun _ _ _ h => h) (Or.inl ⟨by kernel_rfl, ?_⟩) hS ?_
      · intro w5 hSw
        clear hSw hS
        go_simp
      simp only [Act.put, List.setIfInBounds_toArray, List.set_cons_zero, List.set_cons_succ]
      refine wpAnyH_take (i := 19) (oi := { dst := some 36, op := Go.Op.indexAddr 54 (Go.Operand.tmp 34) (Go.Operand.tmp 35), type := 0, pos := "law.go:146", after := #[{ on := 17, ground := Go.Ground.data }, { on := 18, ground := Go.Ground.data }, { on := 11, ground := Go.Ground.guard }], guard := some (11, false) }) (v := .pointer (some ⟨b2, o2 + i * 2, none⟩)) rfl (by kernel_rfl) (by kernel_rfl) (by kernel_rfl) (fun _ _ _ h => h) (Or.inl ⟨by kernel_rfl, ?_⟩) hS ?_
      · intro w5 hSw
        clear hSw hS
        exact exec_idxRf i hil rfl rfl rfl
      simp only [Act.put, List.setIfInBounds_toArray, List.set_cons_zero, List.set_cons_succ]
      refine wpAnyH_take (i := 20) (oi := { dst := some 37, op := Go.Op.fieldAddr 102 (Go.Operand.tmp 36) 1, type := 0, pos := "law.go:146", after := #[{ on := 19, ground := Go.Ground.data }, { on := 11, ground := Go.Ground.guard }], guard := some (11, false) }) (v := .pointer (some ⟨b2, o2 + i * 2 + 1, none⟩)) rfl (by kernel_rfl) (by kernel_rfl) (by kernel_rfl) (fun _ _ _ h => h) (Or.inl ⟨by kernel_rfl, ?_⟩) hS ?_
      · intro w5 hSw
        clear hSw hS
        go_simp
      simp only [Act.put, List.setIfInBounds_toArray, List.set_cons_zero, List.set_cons_succ]
      refine wpAnyH_take (i := 21) (oi := { dst := some 38, op := Go.Op.load 9 (Go.Operand.tmp 37), type := 9, pos := "law.go:146", after := #[{ on := 20, ground := Go.Ground.data }, { on := 11, ground := Go.Ground.guard }], guard := some (11, false) }) (v := .string f.v) rfl (by kernel_rfl) (by kernel_rfl) (by kernel_rfl) (fun _ _ _ h => h) (Or.inl ⟨by kernel_rfl, ?_⟩) hS ?_
      · intro w5 hSw
        have h0 : w5.cell? ⟨b2, o2 + i * 2 + 1, none⟩ = _ := hSw.cell HC4.out
        clear hSw hS
        go_simp
      simp only [Act.put, List.setIfInBounds_toArray, List.set_cons_zero, List.set_cons_succ]
      refine wpAnyH_take (i := 22) (oi := { dst := some 39, op := Go.Op.binOp Go.BinOp.neq 9 (Go.Operand.tmp 33) (Go.Operand.tmp 38) 9, type := 4, pos := "law.go:146", after := #[{ on := 16, ground := Go.Ground.data }, { on := 21, ground := Go.Ground.data }, { on := 11, ground := Go.Ground.guard }], guard := some (11, false) }) (v := .bool false) rfl (by kernel_rfl) (by kernel_rfl) (by kernel_rfl) (fun _ _ _ h => h) (Or.inl ⟨by kernel_rfl, ?_⟩) hS ?_
      · intro w5 hSw
        clear hSw hS
        go_simp
      simp only [Act.put, List.setIfInBounds_toArray, List.set_cons_zero, List.set_cons_succ]
      refine wpAnyH_take (i := 23) (oi := { dst := some 40, op := Go.Op.pick (Go.Operand.tmp 28) (Go.Operand.const (Go.Value.bool true)) (Go.Operand.tmp 39), type := 4, pos := "law.go:146", after := #[{ on := 11, ground := Go.Ground.data }, { on := 22, ground := Go.Ground.data }], guard := none }) (v := .bool false) rfl (by kernel_rfl) (by kernel_rfl) (by kernel_rfl) (fun _ _ _ h => h) (Or.inl ⟨by kernel_rfl, ?_⟩) hS ?_
      · intro w5 hSw
        clear hSw hS
        go_simp
      simp only [Act.put, List.setIfInBounds_toArray, List.set_cons_zero, List.set_cons_succ]
      refine wpAnyH_done (by kernel_rfl) ?_ _
      have HS := Hid.of hS
      clear hS
      go_wp2
      go_roundw
      all_goals first
        | exact ⟨i + 1, by go_num, by omega, Hid.of (HU.out.trans HS.out)⟩
        | (simp [intOf]; omega)
    · have hilz : ¬ (i : Int) < (n : Int) := by omega
      go_wp2
      go_ret
      exact ⟨rfl, HU.out⟩
set_option maxRecDepth 100000 in
set_option maxHeartbeats 2000000 in
theorem sameReq_same (M T : ByteArray) (mi : Int) (fs : List FD) (nf : Nat) (cl : Bool) (a1 a2 : Option Addr) (c1' c2' : Nat) (v1 v2 : Value) (b : List UInt8) (hnf : fs.length = nf) (hl : nf ≤ 1048576) (w : World) (h1 : FdL w a1 fs c1') (h2 : FdL w a2 fs c2') (s1 : Sb w v1 b) (s2 : Sb w v2 b) :
    Calls Tryz.prog 21 #[.agg #[.string M, .string T, .int .i64 mi, .slice a1 nf c1', v1, .bool cl], .agg #[.string M, .string T, .int .i64 mi, .slice a2 nf c2', v2, .bool cl]] w fun e w' => e = .returned (.bool true) ∧ Up w w' := by
  obtain ⟨aB, nB, cB, rfl⟩ := Sb.shape s1
  obtain ⟨aC, nC, cC, rfl⟩ := Sb.shape s2
  have HNf := Hid.of hnf
  clear hnf
  obtain ⟨w1, hw1⟩ : ∃ w1, (w.alloc (.cells [.string M, .string T, .int .i64 mi, .slice a1 nf c1', .slice aB nB cB, .bool cl].toArray 48)).alloc (.cells [.string M, .string T, .int .i64 mi, .slice a2 nf c2', .slice aC nC cC, .bool cl].toArray 56) = w1 := ⟨_, rfl⟩
  have HU := Hid.of (show Up w w1 by rw [← hw1]; exact ((Up.refl w).alloc _).alloc _)
  have A1 : At w1 w.heap.size 48 [.string M, .string T, .int .i64 mi, .slice a1 nf c1', .slice aB nB cB, .bool cl] := by
    rw [← hw1]
    exact (at_new w 48 [.string M, .string T, .int .i64 mi, .slice a1 nf c1', .slice aB nB cB, .bool cl]).up ((Up.refl _).alloc _)
  have A2 : At w1 (w.heap.size + 1) 56 [.string M, .string T, .int .i64 mi, .slice a2 nf c2', .slice aC nC cC, .bool cl] := by
    rw [← hw1]
    have := at_new (w.alloc (.cells [.string M, .string T, .int .i64 mi, .slice a1 nf c1', .slice aB nB cB, .bool cl].toArray 48)) 56 [.string M, .string T, .int .i64 mi, .slice a2 nf c2', .slice aC nC cC, .bool cl]
    rw [alloc_size] at this
    exact this
  have HA1 := Hid.of A1
  have HA2 := Hid.of A2
  have HAl := Hid.of (sameFields_same a1 a2 fs c1' c2' nf HNf.out hl w1 (h1.up HU.out) (h2.up HU.out))
  have HS1 := Hid.of s1
  have HS2 := Hid.of s2
  go_enter Tryz.func21, Tryz.ntmps21
  go_wp2_with (with_reducible show wpList _ _ _ ({ dst := _, op := Op.fieldAddr 48 _ _, type := _, pos := _, after := _, guard := _ } :: _) _ _; refine Shut.out ?_)
  show wpList _ _ _ _ _ _
  clear hw1 s1 s2 h1 h2
  have p0 : w1.cell? ⟨w.heap.size, 0, none⟩ = _ := A1.cell (i := 0) rfl
  have p1 : w1.cell? ⟨w.heap.size, 1, none⟩ = _ := A1.cell (i := 1) rfl
  have p2 : w1.cell? ⟨w.heap.size, 2, none⟩ = _ := A1.cell (i := 2) rfl
  have p3 : w1.cell? ⟨w.heap.size, 3, none⟩ = _ := A1.cell (i := 3) rfl
  have p5 : w1.cell? ⟨w.heap.size, 5, none⟩ = _ := A1.cell (i := 5) rfl
  have q0 : w1.cell? ⟨w.heap.size + 1, 0, none⟩ = _ := A2.cell (i := 0) rfl
  have q1 : w1.cell? ⟨w.heap.size + 1, 1, none⟩ = _ := A2.cell (i := 1) rfl
  have q2 : w1.cell? ⟨w.heap.size + 1, 2, none⟩ = _ := A2.cell (i := 2) rfl
  have q3 : w1.cell? ⟨w.heap.size + 1, 3, none⟩ = _ := A2.cell (i := 3) rfl
  have q5 : w1.cell? ⟨w.heap.size + 1, 5, none⟩ = _ := A2.cell (i := 5) rfl
  clear A1 A2
  have e1 : (M.toList == M.toList) = true := beq_self_eq_true _
  have e2 : (T.toList == T.toList) = true := beq_self_eq_true _
  have e3 : (mi != mi) = false := by simp
  have e4 : (cl != cl) = false := by simp
  go_wp2_with fail
  refine HAl.out.mono ?_
  rintro e w2 ⟨rfl, u2⟩
  have HU2 := Hid.of (HU.out.trans u2)
  have p4 : w2.cell? ⟨w.heap.size, 4, none⟩ = some (.slice aB nB cB) := (HA1.out.up u2).cell (i := 4) rfl
  have q4 : w2.cell? ⟨w.heap.size + 1, 4, none⟩ = some (.slice aC nC cC) := (HA2.out.up u2).cell (i := 4) rfl
  have cv1 := conv_sb2 (HS1.out.up HU2.out)
  have cv2 := conv_sb2 (HS2.out.up HU2.out)
  clear u2 p0 p1 p2 p3 p5 q0 q1 q2 q3 q5
  dsimp only
  obtain ⟨B, hB⟩ : ∃ B : ByteArray, (⟨b.toArray⟩ : ByteArray) = B := ⟨_, rfl⟩
  rw [hB] at cv1 cv2
  have e5 : (B.toList == B.toList) = true := beq_self_eq_true _
  go_wp2
  go_ret
  exact ⟨rfl, HU2.out⟩
end Go.Proofs.YtabpgpbcnadgcaaGreatDoor
namespace Go.Proofs.YtabpgpbcnadgcaaGreatDoor
open Go.RowKit Go.Shelf TextNum
theorem wpList_load_midH {ops : Array Oper} {rest : List Oper} {op : Oper} {a : Act} {w : World} {Q : Exit → Act → World → Prop} (hw : Region.wanted op (yielded ops a.tmps) = true) (ty : TypeId) (x : Operand) (ho : op.op = .load ty x)
    (b o : Nat) (hx : a.eval x = .pointer (some ⟨b, o, none⟩)) (cs : List Value) (d : TypeDesc) (hc : w.rangeAt b o cs)
    (hu : Tryz.prog.underlying ty = some d) (hd : d.isRow = true) (hi : (Tryz.prog.info? ty).map (·.size) = some cs.length)
    (h : wpList Tryz.prog ops Q rest (a.put op.dst (.agg cs.toArray)) w) : wpList Tryz.prog ops Q (op :: rest) a w :=
  wpList_step fun K hK => by
    simp only [hw, if_true]
    exact wp_load_mid ty x ho b o hx cs d hc hu hd hi (hK _ _ h)
theorem pdd_zero (b : List UInt8) : pdd b 0 = b := by
  unfold pdd
  simp
end Go.Proofs.YtabpgpbcnadgcaaGreatDoor
