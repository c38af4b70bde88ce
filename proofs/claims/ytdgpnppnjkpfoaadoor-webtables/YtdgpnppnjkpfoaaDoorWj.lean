import Derived.Test.YtdgpnppnjkpfoaaDoorWh
import Derived.Test.YtdgpnppnjkpfoaaDoorWi
namespace Go.Proofs.YtdgpnppnjkpfoaaDoor
open Go.RowKit TextNum
def five (i : Nat) : Int := [140, 141, 143, 144, 146].getD i 0
theorem five_s : ∀ i, i < 5 → sOf (five i) = 400 := by decide
set_option maxRecDepth 100000 in
set_option maxHeartbeats 4000000 in
theorem tables_walk (ad : Nat → Addr) (w : World) (hE : GE w ad) (hN : GN w) : Calls Tryd.prog 3 #[] w fun e w' => e = .returned (.bool true) ∧ Up w w' := by
  have HE := Hid.of hE
  have HN := Hid.of hN
  clear hE hN
  go_enter Tryd.func3, Tryd.ntmps3
  go_wp2
  have HA := Hid.of (at_new w 22 [.int .i64 140, .int .i64 141, .int .i64 143, .int .i64 144, .int .i64 146])
  have HU0 := Hid.of ((Up.refl w).alloc (.cells [.int .i64 140, .int .i64 141, .int .i64 143, .int .i64 144, .int .i64 146].toArray 22))
  have hsz := alloc_size w (.cells #[.int .i64 140, .int .i64 141, .int .i64 143, .int .i64 144, .int .i64 146] 22)
  generalize w.alloc (.cells #[.int .i64 140, .int .i64 141, .int .i64 143, .int .i64 144, .int .i64 146] 22) = w1 at *
  generalize w.heap.size = b at *
  clear hsz
  go_loopw [5] (fun v5 wr => ∃ i : Nat, v5 = .int .i64 (i : Int) ∧ i ≤ 5 ∧ Hid (Up w1 wr)) (fun v5 _ => 5 - (intOf v5).toNat)
  case atStart => exact ⟨0, rfl, Nat.zero_le _, Hid.of (Up.refl _)⟩
  case round =>
    obtain ⟨i, rfl, hi, hU⟩ := hrel
    have HU := Hid.of hU.out
    clear hU
    by_cases hil : i < 5
    · have hiz : (i : Int) < 5 := by omega
      have c1 : wr.cell? ⟨b, i, none⟩ = some (.int .i64 (five i)) := HU.out.cell (HA.out.cell (i := i) (by
        have : i = 0 ∨ i = 1 ∨ i = 2 ∨ i = 3 ∨ i = 4 := by omega
        rcases this with rfl | rfl | rfl | rfl | rfl <;> rfl))
      have hs := five_s i hil
      have HS := Hid.of (StatusOf_walk ad (five i) wr ((HE.out.up HU0.out).up HU.out))
      rw [hs] at HS
      clear hs
      generalize five i = fi at *
      go_wp2_with fail
      refine HS.out.mono ?_
      rintro e w5 ⟨rfl, u5⟩
      have HU5 := Hid.of (HU.out.trans u5)
      clear u5 HS
      dsimp only
      go_wp2
      go_roundw
      all_goals first
        | exact ⟨i + 1, by go_num, by omega, HU5⟩
        | (simp [intOf]; omega)
    · have hiz : ¬ (i : Int) < 5 := by omega
      have HU2 := Hid.of (HU0.out.trans HU.out)
      clear HU HU0 HA
      have HC20 := Hid.of (StatusOf_walk ad 0 wr (HE.out.up HU2.out))
      rw [show sOf 0 = 200 by decide] at HC20
      go_wp2_with fail
      refine HC20.out.mono ?_
      rintro e w20 ⟨rfl, u20⟩
      have HV20 := Hid.of (HU2.out.trans u20)
      clear u20 HC20 HU2
      dsimp only
      have HC21 := Hid.of (StatusOf_walk ad 145 w20 (HE.out.up HV20.out))
      rw [show sOf 145 = 413 by decide] at HC21
      go_wp2_with fail
      refine HC21.out.mono ?_
      rintro e w21 ⟨rfl, u21⟩
      have HV21 := Hid.of (HV20.out.trans u21)
      clear u21 HC21 HV20
      dsimp only
      have HC22 := Hid.of (StatusOf_walk ad 147 w21 (HE.out.up HV21.out))
      rw [show sOf 147 = 414 by decide] at HC22
      go_wp2_with fail
      refine HC22.out.mono ?_
      rintro e w22 ⟨rfl, u22⟩
      have HV22 := Hid.of (HV21.out.trans u22)
      clear u22 HC22 HV21
      dsimp only
      have HC23 := Hid.of (StatusOf_walk ad 2 w22 (HE.out.up HV22.out))
      rw [show sOf 2 = 431 by decide] at HC23
      go_wp2_with fail
      refine HC23.out.mono ?_
      rintro e w23 ⟨rfl, u23⟩
      have HV23 := Hid.of (HV22.out.trans u23)
      clear u23 HC23 HV22
      dsimp only
      have HC24 := Hid.of (StatusOf_walk ad 148 w23 (HE.out.up HV23.out))
      rw [show sOf 148 = 501 by decide] at HC24
      go_wp2_with fail
      refine HC24.out.mono ?_
      rintro e w24 ⟨rfl, u24⟩
      have HV24 := Hid.of (HV23.out.trans u24)
      clear u24 HC24 HV23
      dsimp only
      have HC25 := Hid.of (StatusOf_walk ad 142 w24 (HE.out.up HV24.out))
      rw [show sOf 142 = 505 by decide] at HC25
      go_wp2_with fail
      refine HC25.out.mono ?_
      rintro e w25 ⟨rfl, u25⟩
      have HV25 := Hid.of (HV24.out.trans u25)
      clear u25 HC25 HV24
      dsimp only
      have HC26 := Hid.of (StatusOf_walk ad 149 w25 (HE.out.up HV25.out))
      rw [show sOf 149 = 500 by decide] at HC26
      go_wp2_with fail
      refine HC26.out.mono ?_
      rintro e w26 ⟨rfl, u26⟩
      have HV26 := Hid.of (HV25.out.trans u26)
      clear u26 HC26 HV25
      dsimp only
      have HC27 := Hid.of (StatusOf_walk ad 1 w26 (HE.out.up HV26.out))
      rw [show sOf 1 = 500 by decide] at HC27
      go_wp2_with fail
      refine HC27.out.mono ?_
      rintro e w27 ⟨rfl, u27⟩
      have HV27 := Hid.of (HV26.out.trans u27)
      clear u27 HC27 HV26
      dsimp only
      have HC28 := Hid.of (Reason_walk 200 (by decide) (by decide) w27 (HN.out.up HV27.out))
      rw [show rsn 200 = [79, 75] by decide +kernel] at HC28
      go_wp2_with fail
      refine HC28.out.mono ?_
      rintro e w28 ⟨rfl, u28⟩
      have HV28 := Hid.of (HV27.out.trans u28)
      clear u28 HC28 HV27
      dsimp only
      have HC29 := Hid.of (Reason_walk 404 (by decide) (by decide) w28 (HN.out.up HV28.out))
      rw [show rsn 404 = [78, 111, 116, 32, 70, 111, 117, 110, 100] by decide +kernel] at HC29
      go_wp2_with fail
      refine HC29.out.mono ?_
      rintro e w29 ⟨rfl, u29⟩
      have HV29 := Hid.of (HV28.out.trans u29)
      clear u29 HC29 HV28
      dsimp only
      have HC30 := Hid.of (Reason_walk 431 (by decide) (by decide) w29 (HN.out.up HV29.out))
      rw [show rsn 431 = [82, 101, 113, 117, 101, 115, 116, 32, 72, 101, 97, 100, 101, 114, 32, 70, 105, 101, 108, 100, 115, 32, 84, 111, 111, 32, 76, 97, 114, 103, 101] by decide +kernel] at HC30
      go_wp2_with fail
      refine HC30.out.mono ?_
      rintro e w30 ⟨rfl, u30⟩
      have HV30 := Hid.of (HV29.out.trans u30)
      clear u30 HC30 HV29
      dsimp only
      have HC31 := Hid.of (Reason_walk 299 (by decide) (by decide) w30 (HN.out.up HV30.out))
      rw [show rsn 299 = [83, 116, 97, 116, 117, 115, 32, 50, 57, 57] by decide +kernel] at HC31
      go_wp2_with fail
      refine HC31.out.mono ?_
      rintro e w31 ⟨rfl, u31⟩
      have HV31 := Hid.of (HV30.out.trans u31)
      clear u31 HC31 HV30
      dsimp only
      have HC32 := Hid.of (Reason_walk (-7) (by decide) (by decide) w31 (HN.out.up HV31.out))
      rw [show rsn (-7) = [83, 116, 97, 116, 117, 115, 32, 45, 55] by decide +kernel] at HC32
      go_wp2_with fail
      refine HC32.out.mono ?_
      rintro e w32 ⟨rfl, u32⟩
      have HV32 := Hid.of (HV31.out.trans u32)
      clear u32 HC32 HV31
      dsimp only
      go_wp2
      go_ret
      exact ⟨rfl, HV32.out⟩
end Go.Proofs.YtdgpnppnjkpfoaaDoor
