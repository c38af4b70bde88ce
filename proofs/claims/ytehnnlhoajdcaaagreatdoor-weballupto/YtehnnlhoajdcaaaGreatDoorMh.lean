import Derived.Test.YtehnnlhoajdcaaaGreatDoorMb
import Derived.Test.YtehnnlhoajdcaaaGreatDoorWi
namespace Go.Proofs.YtehnnlhoajdcaaaGreatDoor
open Go.RowKit TextNum
def vt0 : ByteArray := ⟨#[72, 84, 84, 80, 47, 49, 46, 48]⟩
def vt1 : ByteArray := ⟨#[72, 84, 84, 80, 47, 49, 46, 49]⟩
set_option maxRecDepth 100000 in
theorem versionText_0 (w : World) (hN : GN w) : Calls Tryz.prog 57 #[.int .i64 0] w fun e w' => e = .returned (.string vt0) ∧ Up w w' := by
 have hF := FormatNumber_walk 0 (by decide) (by decide) w hN
 rw [show Go.Lib.itoa 0 = [48] by decide +kernel] at hF
 have HF := Ho hF
 clear hF hN
 go_enter Tryz.func57, Tryz.ntmps57
 go_wp2_with fail
 refine HF.o.mono ?_
 rintro e w2 ⟨rfl, h9⟩
 have HU := Ho h9
 clear h9
 dsimp only
 go_wp2
 go_ret
 exact ⟨rfl, HU.o⟩
set_option maxRecDepth 100000 in
theorem versionText_1 (w : World) (hN : GN w) : Calls Tryz.prog 57 #[.int .i64 1] w fun e w' => e = .returned (.string vt1) ∧ Up w w' := by
 have hF := FormatNumber_walk 1 (by decide) (by decide) w hN
 rw [show Go.Lib.itoa 1 = [49] by decide +kernel] at hF
 have HF := Ho hF
 clear hF hN
 go_enter Tryz.func57, Tryz.ntmps57
 go_wp2_with fail
 refine HF.o.mono ?_
 rintro e w2 ⟨rfl, h9⟩
 have HU := Ho h9
 clear h9
 dsimp only
 go_wp2
 go_ret
 exact ⟨rfl, HU.o⟩
def mno (s : ByteArray) : Er Int := if (s.toList == vt0.toList) = true then .ok 0 else if (s.toList == vt1.toList) = true then .ok 1 else .error 4
def mnR (ad : Nat → Addr) : Er Int → Value
 | .error k => .tuple #[.int .i64 0, ev (ad k)]
 | .ok m => .tuple #[.int .i64 m, .nilIface]
set_option maxRecDepth 100000 in
set_option maxHeartbeats 1000000 in
theorem minorOf_walk (ad : Nat → Addr) (s : ByteArray) (w : World) (h : GE w ad) (hN : GN w) : Calls Tryz.prog 148 #[.string s] w fun e w' => e = .returned (mnR ad (mno s)) ∧ Up w w' := by
 have HG := Ho h
 have HNN := Ho hN
 clear h hN
 obtain ⟨rv, hrv⟩ := ny (mnR ad (mno s))
 have HR := Ho hrv
 rw [hrv]
 clear hrv
 go_enter Tryz.func148, Tryz.ntmps148
 go_wp2_with fail
 refine (versionText_0 w HNN.o).mono ?_
 rintro e w2 ⟨rfl, h9⟩
 have HU2 := Ho h9
 clear h9
 dsimp only
 cases h0 : (s.toList == vt0.toList) with
 | true =>
  have HE := Ho (show rv = mnR ad (.ok 0) by rw [← HR.o]; unfold mno; rw [if_pos h0])
  go_wp2
  go_ret2
  rw [HE.o]
  exact ⟨rfl, HU2.o⟩
 | false =>
  have HR2 := Ho (show rv = mnR ad (if (s.toList == vt1.toList) = true then .ok 1 else .error 4) by rw [← HR.o]; unfold mno; rw [if_neg (by rw [h0]; simp)])
  go_wp2_with fail
  refine (versionText_1 w2 (HNN.o.up HU2.o)).mono ?_
  rintro e w3 ⟨rfl, h9⟩
  have HU3 := Ho (HU2.o.trans h9)
  clear h9
  dsimp only
  cases h1 : (s.toList == vt1.toList) with
  | true =>
   have HE := Ho (show rv = mnR ad (.ok 1) by rw [HR2.o, if_pos h1])
   go_wp2
   go_ret2
   rw [HE.o]
   exact ⟨rfl, HU3.o⟩
  | false =>
   have HE := Ho (show rv = mnR ad (.error 4) by rw [HR2.o, if_neg (by rw [h1]; simp)])
   go_wp2
   refine wp_region_held_drew (S := fun w2 => GE w2 ad ∧ Up w w2) (by kernel_rfl) ⟨HG.o.up HU3.o.drew, HU3.o.drew⟩ (fun hS => ?_)
   refine tK 0 (some 11) (.load 106 (.global 5)) 106 (ev (ad 4)) hS ?_ ?_
   · intro _ _ w5 hSw
     have hgl : w5.cell? ⟨5, 0, none⟩ = _ := hSw.1.gl 4 (by decide)
     clear hSw hS
     go_simp
   simp only [Act.put, pB, pC, pD]
   refine tN 1 (some 2) (.assign (.const (.int .i64 0))) 3 (.int .i64 0) hS ?_
   simp only [pA, pB, pC, pD]
   refine tN 2 (some 3) (.assign (.tmp 11)) 106 (ev (ad 4)) hS ?_
   simp only [pA, pB, pC, pD]
   refine wpAnyH_done (by kernel_rfl) ?_ _
   have HS2 := Ho hS.2
   clear hS
   go_wp2
   go_ret2
   rw [HE.o]
   exact ⟨rfl, HS2.o⟩
end Go.Proofs.YtehnnlhoajdcaaaGreatDoor
