import Derived.Test.YtfmdaollnjnhgaaDoorNf
import Derived.Test.YtfmdaollnjnhgaaDoorNq
import Derived.Test.YtfmdaollnjnhgaaDoorMx
namespace Go.Proofs.YtfmdaollnjnhgaaDoor
open Go.RowKit Go.Shelf TextNum ModNum
abbrev u3c (a0 a1 a2 : Nat) : List Value := [.int .u32 (a0 : Int), .int .u32 (a1 : Int), .int .u32 (a2 : Int)]
def pp3 (t0 t1 t2 : ByteArray) : Nat → ByteArray
  | 0 => ⟨#[118]⟩
  | 1 => ⟨#[118]⟩ ++ t0
  | 2 => ⟨#[118]⟩ ++ t0 ++ ⟨#[46]⟩ ++ t1
  | _ => ⟨#[118]⟩ ++ t0 ++ ⟨#[46]⟩ ++ t1 ++ ⟨#[46]⟩ ++ t2
theorem ba_eq {x : ByteArray} {l : List UInt8} (h : x.data.toList = l) : x = ⟨l.toArray⟩ := by
  cases x with
  | mk d => rw [← h]
theorem baApp (a b : ByteArray) : (a ++ b).data.toList = a.data.toList ++ b.data.toList := by
  rw [ByteArray.data_append, Array.toList_append]
theorem pp3_eq (a0 a1 a2 : Nat) : pp3 ⟨(dd a0).toArray⟩ ⟨(dd a1).toArray⟩ ⟨(dd a2).toArray⟩ 3 = ⟨(118 :: tri a0 a1 a2).toArray⟩ := by
  refine ba_eq ?_
  show (⟨#[118]⟩ ++ _ ++ ⟨#[46]⟩ ++ _ ++ ⟨#[46]⟩ ++ _ : ByteArray).data.toList = _
  rw [baApp, baApp, baApp, baApp, baApp]
  unfold tri
  simp
set_option maxRecDepth 100000 in
set_option maxHeartbeats 4000000 in
theorem three_walk (a0 a1 a2 : Nat) (h0 : a0 < 4294967296) (h1 : a1 < 4294967296) (h2 : a2 < 4294967296) (w : World) (hG : GP w) :
    Calls Tryd.prog 11 #[.agg (u3c a0 a1 a2).toArray] w fun e w' => e = .returned (.string ⟨(118 :: tri a0 a1 a2).toArray⟩) ∧ Up w w' := by
  have HA0 := Hid.of (at_new w 23 (u3c a0 a1 a2))
  have HU0 := Hid.of ((Up.refl w).alloc (.cells (u3c a0 a1 a2).toArray 23))
  have HF0 := fun w' => fun (k : Up w w') => Hid.of (FormatUint_walk a0 (by omega) w' (gp_up hG k))
  have HF1 := fun w' => fun (k : Up w w') => Hid.of (FormatUint_walk a1 (by omega) w' (gp_up hG k))
  have HF2 := fun w' => fun (k : Up w w') => Hid.of (FormatUint_walk a2 (by omega) w' (gp_up hG k))
  have e0 : (⟨(dd a0).toArray⟩ : ByteArray).size ≤ 20 := by rw [size_str]; exact dd_len h0
  have e1 : (⟨(dd a1).toArray⟩ : ByteArray).size ≤ 20 := by rw [size_str]; exact dd_len h1
  have e2 : (⟨(dd a2).toArray⟩ : ByteArray).size ≤ 20 := by rw [size_str]; exact dd_len h2
  have HE := Hid.of (pp3_eq a0 a1 a2)
  clear hG
  generalize (⟨(dd a0).toArray⟩ : ByteArray) = t0 at *
  generalize (⟨(dd a1).toArray⟩ : ByteArray) = t1 at *
  generalize (⟨(dd a2).toArray⟩ : ByteArray) = t2 at *
  have k0 : ¬ 9223372036854775807 < 1 + t0.size := by omega
  have k1 : ¬ 9223372036854775807 < 1 + t0.size + 1 := by omega
  have k2 : ¬ 9223372036854775807 < 1 + t0.size + 1 + t1.size := by omega
  have k3 : ¬ 9223372036854775807 < 1 + t0.size + 1 + t1.size + 1 := by omega
  have k4 : ¬ 9223372036854775807 < 1 + t0.size + 1 + t1.size + 1 + t2.size := by omega
  have z0 : (a0 : Int) < 4294967296 := by omega
  have z1 : (a1 : Int) < 4294967296 := by omega
  have z2 : (a2 : Int) < 4294967296 := by omega
  have y0 : IntKind.u64.wrap (a0 : Int) = (a0 : Int) := by rw [IntKind.wrap_u64]; omega
  have y1 : IntKind.u64.wrap (a1 : Int) = (a1 : Int) := by rw [IntKind.wrap_u64]; omega
  have y2 : IntKind.u64.wrap (a2 : Int) = (a2 : Int) := by rw [IntKind.wrap_u64]; omega
  clear e0 e1 e2 h0 h1 h2
  go_enter Tryd.func11, Tryd.ntmps11
  go_wp2
  generalize w.alloc (.cells (u3c a0 a1 a2).toArray 23) = W0 at *
  go_loopw [3, 4] (fun v3 v4 wr => ∃ i : Nat, v4 = .int .i64 (i : Int) ∧ i ≤ 3 ∧ v3 = .string (pp3 t0 t1 t2 i) ∧ Hid (Up W0 wr)) (fun _ v4 _ => 3 - (intOf v4).toNat)
  case atStart => exact ⟨0, rfl, by omega, rfl, Up.refl _⟩
  case round =>
    obtain ⟨i, rfl, hi, rfl, hI⟩ := hrel
    obtain rfl | rfl | rfl | rfl : i = 0 ∨ i = 1 ∨ i = 2 ∨ i = 3 := by omega
    · have hc := (HA0.out.up hI.out).cell (i := 0) rfl
      have HC := Hid.of (HF0 wr (HU0.out.trans hI.out)).out
      rw [show pp3 t0 t1 t2 0 = ⟨#[118]⟩ from rfl]
      clear HF0 HF1 HF2
      go_wp2_with fail
      refine HC.out.mono ?_
      rintro e w5 ⟨rfl, u5⟩
      have H5 := Hid.of (hI.out.trans u5)
      clear u5 hc
      dsimp only
      go_wp2
      go_roundw
      case rel => exact ⟨1, rfl, by omega, rfl, H5.out⟩
      case measure => simp [intOf]
    · have hc := (HA0.out.up hI.out).cell (i := 1) rfl
      have HC := Hid.of (HF1 wr (HU0.out.trans hI.out)).out
      rw [show pp3 t0 t1 t2 1 = ⟨#[118]⟩ ++ t0 from rfl]
      clear HF0 HF1 HF2
      go_wp2_with fail
      refine HC.out.mono ?_
      rintro e w5 ⟨rfl, u5⟩
      have H5 := Hid.of (hI.out.trans u5)
      clear u5 hc
      dsimp only
      go_wp2
      go_roundw
      case rel => exact ⟨2, rfl, by omega, rfl, H5.out⟩
      case measure => simp [intOf]
    · have hc := (HA0.out.up hI.out).cell (i := 2) rfl
      have HC := Hid.of (HF2 wr (HU0.out.trans hI.out)).out
      rw [show pp3 t0 t1 t2 2 = ⟨#[118]⟩ ++ t0 ++ ⟨#[46]⟩ ++ t1 from rfl]
      clear HF0 HF1 HF2
      go_wp2_with fail
      refine HC.out.mono ?_
      rintro e w5 ⟨rfl, u5⟩
      have H5 := Hid.of (hI.out.trans u5)
      clear u5 hc
      dsimp only
      go_wp2
      go_roundw
      case rel => exact ⟨3, rfl, by omega, rfl, H5.out⟩
      case measure => simp [intOf]
    · rw [HE.out]
      go_wp2
      go_ret
      exact ⟨rfl, HU0.out.trans hI.out⟩
set_option maxRecDepth 100000 in
set_option maxHeartbeats 4000000 in
theorem side_walk (a0 a1 a2 b0 b1 b2 : Nat) (w : World) :
    Calls Tryd.prog 12 #[.agg (u3c a0 a1 a2).toArray, .agg (u3c b0 b1 b2).toArray] w fun e w' => e = .returned (.int .i64 (sdN a0 a1 a2 b0 b1 b2)) ∧ Up w w' := by
  have HA0 := Hid.of ((at_new w 23 (u3c a0 a1 a2)).up ((Up.refl _).alloc (.cells (u3c b0 b1 b2).toArray 23)))
  have HB0 := Hid.of (at_new (w.alloc (.cells (u3c a0 a1 a2).toArray 23)) 23 (u3c b0 b1 b2))
  have HU0 := Hid.of (((Up.refl w).alloc (.cells (u3c a0 a1 a2).toArray 23)).alloc (.cells (u3c b0 b1 b2).toArray 23))
  rw [alloc_size] at HB0
  go_enter Tryd.func12, Tryd.ntmps12
  go_wp2
  generalize (w.alloc (.cells (u3c a0 a1 a2).toArray 23)).alloc (.cells (u3c b0 b1 b2).toArray 23) = W0 at *
  go_loopw [5] (fun v5 wr => ∃ i : Nat, v5 = .int .i64 (i : Int) ∧ i ≤ 3 ∧ Hid (((1 ≤ i → a0 = b0) ∧ (2 ≤ i → a1 = b1) ∧ (3 ≤ i → a2 = b2)) ∧ Up W0 wr)) (fun v5 _ => 3 - (intOf v5).toNat)
  case atStart => exact ⟨0, rfl, by omega, ⟨by omega, by omega, by omega⟩, Up.refl _⟩
  case round =>
    obtain ⟨i, rfl, hi, hI⟩ := hrel
    have HR := Hid.of (HU0.out.trans hI.out.2)
    obtain rfl | rfl | rfl | rfl : i = 0 ∨ i = 1 ∨ i = 2 ∨ i = 3 := by omega
    · have hca := (HA0.out.up hI.out.2).cell (i := 0) rfl
      have hcb := (HB0.out.up hI.out.2).cell (i := 0) rfl
      rcases Nat.lt_trichotomy a0 b0 with h | h | h
      · have hz : (a0 : Int) < (b0 : Int) := by omega
        have HS := Hid.of (show sdN a0 a1 a2 b0 b1 b2 = -1 by unfold sdN; rw [cmpN_lt h]; rfl)
        clear h
        go_wp2
        go_region
        go_wp2
        go_ret
        rw [HS.out]
        exact ⟨rfl, HR.out.drew⟩
      · subst h
        go_wp2
        go_region
        go_wp2
        go_region
        go_wp2
        go_roundw
        case rel => exact ⟨1, rfl, by omega, ⟨fun _ => by first | rfl | trivial, by omega, by omega⟩, hI.out.2.drew.drew⟩
        case measure => simp [intOf]
      · have hz : (b0 : Int) < (a0 : Int) := by omega
        have hz2 : ¬ (a0 : Int) < (b0 : Int) := by omega
        have HS := Hid.of (show sdN a0 a1 a2 b0 b1 b2 = 1 by unfold sdN; rw [cmpN_gt h]; rfl)
        clear h
        go_wp2
        go_region
        go_wp2
        go_region
        go_wp2
        go_ret
        rw [HS.out]
        exact ⟨rfl, HR.out.drew.drew⟩
    · have hca := (HA0.out.up hI.out.2).cell (i := 1) rfl
      have hcb := (HB0.out.up hI.out.2).cell (i := 1) rfl
      have he0 := Hid.of (hI.out.1.1 (by omega))
      rcases Nat.lt_trichotomy a1 b1 with h | h | h
      · have hz : (a1 : Int) < (b1 : Int) := by omega
        have HS := Hid.of (show sdN a0 a1 a2 b0 b1 b2 = -1 by unfold sdN; rw [cmpN_zero.2 he0.out, cmpN_lt h]; rfl)
        clear h he0
        go_wp2
        go_region
        go_wp2
        go_ret
        rw [HS.out]
        exact ⟨rfl, HR.out.drew⟩
      · subst h
        go_wp2
        go_region
        go_wp2
        go_region
        go_wp2
        go_roundw
        case rel => exact ⟨2, rfl, by omega, ⟨fun _ => he0.out, fun _ => by first | rfl | trivial, by omega⟩, hI.out.2.drew.drew⟩
        case measure => simp [intOf]
      · have hz : (b1 : Int) < (a1 : Int) := by omega
        have hz2 : ¬ (a1 : Int) < (b1 : Int) := by omega
        have HS := Hid.of (show sdN a0 a1 a2 b0 b1 b2 = 1 by unfold sdN; rw [cmpN_zero.2 he0.out, cmpN_gt h]; rfl)
        clear h he0
        go_wp2
        go_region
        go_wp2
        go_region
        go_wp2
        go_ret
        rw [HS.out]
        exact ⟨rfl, HR.out.drew.drew⟩
    · have hca := (HA0.out.up hI.out.2).cell (i := 2) rfl
      have hcb := (HB0.out.up hI.out.2).cell (i := 2) rfl
      have he0 := Hid.of (hI.out.1.1 (by omega))
      have he1 := Hid.of (hI.out.1.2.1 (by omega))
      rcases Nat.lt_trichotomy a2 b2 with h | h | h
      · have hz : (a2 : Int) < (b2 : Int) := by omega
        have HS := Hid.of (show sdN a0 a1 a2 b0 b1 b2 = -1 by unfold sdN; rw [cmpN_zero.2 he0.out, cmpN_zero.2 he1.out, cmpN_lt h]; rfl)
        clear h he0 he1
        go_wp2
        go_region
        go_wp2
        go_ret
        rw [HS.out]
        exact ⟨rfl, HR.out.drew⟩
      · subst h
        go_wp2
        go_region
        go_wp2
        go_region
        go_wp2
        go_roundw
        case rel => exact ⟨3, rfl, by omega, ⟨fun _ => he0.out, fun _ => he1.out, fun _ => by first | rfl | trivial⟩, hI.out.2.drew.drew⟩
        case measure => simp [intOf]
      · have hz : (b2 : Int) < (a2 : Int) := by omega
        have hz2 : ¬ (a2 : Int) < (b2 : Int) := by omega
        have HS := Hid.of (show sdN a0 a1 a2 b0 b1 b2 = 1 by unfold sdN; rw [cmpN_zero.2 he0.out, cmpN_zero.2 he1.out, cmpN_gt h]; rfl)
        clear h he0 he1
        go_wp2
        go_region
        go_wp2
        go_region
        go_wp2
        go_ret
        rw [HS.out]
        exact ⟨rfl, HR.out.drew.drew⟩
    · have HS := Hid.of (show sdN a0 a1 a2 b0 b1 b2 = 0 by unfold sdN; rw [cmpN_zero.2 (hI.out.1.1 (by omega)), cmpN_zero.2 (hI.out.1.2.1 (by omega)), cmpN_zero.2 (hI.out.1.2.2 (by omega))]; rfl)
      go_wp2
      go_ret
      rw [HS.out]
      exact ⟨rfl, HR.out⟩
end Go.Proofs.YtfmdaollnjnhgaaDoor
