import Derived.Test.YtabpgpbcnadgcaaGreatDoorYq
import Derived.Test.YtabpgpbcnadgcaaGreatDoorWi
namespace Go.Proofs.YtabpgpbcnadgcaaGreatDoor
open Go.RowKit TextNum
def vt0 : ByteArray := ⟨#[72, 84, 84, 80, 47, 49, 46, 48]⟩
def vt1 : ByteArray := ⟨#[72, 84, 84, 80, 47, 49, 46, 49]⟩
set_option maxRecDepth 100000 in
theorem versionText_0 (w : World) (hN : GN w) : Calls Tryz.prog 57 #[.int .i64 0] w fun e w' => e = .returned (.string vt0) ∧ Up w w' := by
  have hF := FormatNumber_walk 0 (by decide) (by decide) w hN
  rw [show Go.Lib.itoa 0 = [48] by decide +kernel] at hF
  have HF := Hid.of hF
  clear hF hN
  go_enter Tryz.func57, Tryz.ntmps57
  go_wp2_with fail
  refine HF.out.mono ?_
  rintro e w2 ⟨rfl, h9⟩
  have HU := Hid.of h9
  clear h9
  dsimp only
  go_wp2
  go_ret
  exact ⟨rfl, HU.out⟩
set_option maxRecDepth 100000 in
theorem versionText_1 (w : World) (hN : GN w) : Calls Tryz.prog 57 #[.int .i64 1] w fun e w' => e = .returned (.string vt1) ∧ Up w w' := by
  have hF := FormatNumber_walk 1 (by decide) (by decide) w hN
  rw [show Go.Lib.itoa 1 = [49] by decide +kernel] at hF
  have HF := Hid.of hF
  clear hF hN
  go_enter Tryz.func57, Tryz.ntmps57
  go_wp2_with fail
  refine HF.out.mono ?_
  rintro e w2 ⟨rfl, h9⟩
  have HU := Hid.of h9
  clear h9
  dsimp only
  go_wp2
  go_ret
  exact ⟨rfl, HU.out⟩
/-- the minor of a version -/
def mno (s : ByteArray) : Er Int := if (s.toList == vt0.toList) = true then .ok 0 else if (s.toList == vt1.toList) = true then .ok 1 else .error 4
def mnR (ad : Nat → Addr) : Er Int → Value
  | .error k => .tuple #[.int .i64 0, ev (ad k)]
  | .ok m => .tuple #[.int .i64 m, .nilIface]
set_option maxRecDepth 100000 in
set_option maxHeartbeats 1000000 in
theorem minorOf_walk (ad : Nat → Addr) (s : ByteArray) (w : World) (h : GE w ad) (hN : GN w) : Calls Tryz.prog 148 #[.string s] w fun e w' => e = .returned (mnR ad (mno s)) ∧ Up w w' := by
  have HG := Hid.of h
  have HNN := Hid.of hN
  clear h hN
  obtain ⟨rv, hrv⟩ : ∃ rv, mnR ad (mno s) = rv := ⟨_, rfl⟩
  have HR := Hid.of hrv
  rw [hrv]
  clear hrv
  go_enter Tryz.func148, Tryz.ntmps148
  go_wp2_with fail
  refine (versionText_0 w HNN.out).mono ?_
  rintro e w2 ⟨rfl, h9⟩
  have HU2 := Hid.of h9
  clear h9
  dsimp only
  cases h0 : (s.toList == vt0.toList) with
  | true =>
    have HE := Hid.of (show rv = mnR ad (.ok 0) by rw [← HR.out]; unfold mno; rw [if_pos h0])
    go_wp2
    go_ret2
    rw [HE.out]
    exact ⟨rfl, HU2.out⟩
  | false =>
    have HR2 := Hid.of (show rv = mnR ad (if (s.toList == vt1.toList) = true then .ok 1 else .error 4) by rw [← HR.out]; unfold mno; rw [if_neg (by rw [h0]; simp)])
    go_wp2_with fail
    refine (versionText_1 w2 (HNN.out.up HU2.out)).mono ?_
    rintro e w3 ⟨rfl, h9⟩
    have HU3 := Hid.of (HU2.out.trans h9)
    clear h9
    dsimp only
    cases h1 : (s.toList == vt1.toList) with
    | true =>
      have HE := Hid.of (show rv = mnR ad (.ok 1) by rw [HR2.out, if_pos h1])
      go_wp2
      go_ret2
      rw [HE.out]
      exact ⟨rfl, HU3.out⟩
    | false =>
      have HE := Hid.of (show rv = mnR ad (.error 4) by rw [HR2.out, if_neg (by rw [h1]; simp)])
      go_wp2
      refine wp_region_held_drew (S := fun w2 => GE w2 ad ∧ Up w w2) (by kernel_rfl) ⟨HG.out.up HU3.out.drew, HU3.out.drew⟩ (fun hS => ?_)
      refine wpAnyH_take (i := 0) (oi := { dst := some 11, op := Go.Op.load 106 (Go.Operand.global 5), type := 106, pos := "start.go:41", after := #[{ on := 1, ground := Go.Ground.gcOnly Go.Departure.lateStores }], guard := none }) (v := ev (ad 4)) rfl (by kernel_rfl) (by kernel_rfl) (by kernel_rfl) (fun _ _ _ h => h) (Or.inl ⟨by kernel_rfl, ?_⟩) hS ?_
      · intro w5 hSw
        have hgl : w5.cell? ⟨5, 0, none⟩ = _ := hSw.1.gl 4 (by decide)
        clear hSw hS
        go_simp
      simp only [Act.put, List.setIfInBounds_toArray, List.set_cons_zero, List.set_cons_succ]
      refine wpAnyH_take (i := 1) (oi := { dst := some 2, op := Go.Op.assign (Go.Operand.const (Go.Value.int Go.IntKind.i64 0)), type := 3, pos := "start.go:41", after := #[{ on := 0, ground := Go.Ground.textOnly Go.Departure.lateStores }], guard := none }) (v := .int .i64 0) rfl (by kernel_rfl) (by kernel_rfl) (by kernel_rfl) (fun _ _ _ h => h) (Or.inl ⟨by kernel_rfl, ?_⟩) hS ?_
      · intro w5 hSw
        clear hSw hS
        go_simp
      simp only [Act.put, List.setIfInBounds_toArray, List.set_cons_zero, List.set_cons_succ]
      refine wpAnyH_take (i := 2) (oi := { dst := some 3, op := Go.Op.assign (Go.Operand.tmp 11), type := 106, pos := "start.go:41", after := #[{ on := 0, ground := Go.Ground.data }, { on := 1, ground := Go.Ground.chain }, { on := 0, ground := Go.Ground.phase }, { on := 1, ground := Go.Ground.phase }], guard := none }) (v := ev (ad 4)) rfl (by kernel_rfl) (by kernel_rfl) (by kernel_rfl) (fun _ _ _ h => h) (Or.inl ⟨by kernel_rfl, ?_⟩) hS ?_
      · intro w5 hSw
        clear hSw hS
        go_simp
      simp only [Act.put, List.setIfInBounds_toArray, List.set_cons_zero, List.set_cons_succ]
      refine wpAnyH_done (by kernel_rfl) ?_ _
      have HS2 := Hid.of hS.2
      clear hS
      go_wp2
      go_ret2
      rw [HE.out]
      exact ⟨rfl, HS2.out⟩
end Go.Proofs.YtabpgpbcnadgcaaGreatDoor
