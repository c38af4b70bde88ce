import Derived.Test.YtepakbghhnkcfaaDoorGa
namespace Go.Proofs.YtepakbghhnkcfaaDoor
open Go.RowKit Go.Shelf TextNum ModNum
set_option maxRecDepth 100000 in
set_option maxHeartbeats 1000000 in
theorem act_Remove1 (D : Nat) (room used wrs trn acts : Int) (vM vL vC vLo ft c0 c1 : Value) (w : World) (hA : At w D 82 [.int .i64 room, .int .i64 used, .bool false, vM, vL, vC, vLo, .int .i64 wrs, .int .i64 trn, .int .i64 acts, .int .i64 0, ft]) (h0 : 0 ≤ acts) (h1 : acts ≤ 4611686018427387904) (Post : World → Prop)
    (H : ∀ w1, At w1 D 82 [.int .i64 room, .int .i64 used, .bool false, vM, vL, vC, vLo, .int .i64 wrs, .int .i64 trn, .int .i64 (acts + 1), .int .i64 0, ft] → w.grownBy w1 (some D) → Calls Tryd.prog 40 #[c0, c1] w1 fun e w2 => e = .returned (.tuple #[]) ∧ Post w2) :
    Calls Tryd.prog 27 #[.pointer (some ⟨D, 0, none⟩), .int .i64 0, .func (.func 40) #[] #[c0, c1]] w fun e w2 => e = .returned (.int .i64 0) ∧ Post w2 := by
  have hc2 := hA.cell (i := 2) rfl
  have hc9 := hA.cell (i := 9) rfl
  have ht9 := hA.thaw 9
  have HA1 := Hid.of (hA.set 9 (.int .i64 (acts + 1)))
  have HG1 := Hid.of (grown_at w D 9 (.int .i64 (acts + 1)))
  have HC := Hid.of (H _ HA1.out HG1.out)
  have HD := Hid.of (due_walk D (.int .i64 room) (.int .i64 used) (.bool false) vM vL vC vLo (.int .i64 wrs) (.int .i64 trn) (.int .i64 (acts + 1)) ft _ HA1.out)
  clear hA H HA1 HG1
  go_enter Tryd.func27, Tryd.ntmps27
  go_wp2_with fail
  refine HD.out.mono ?_
  rintro e w1 ⟨rfl, rfl⟩
  dsimp only
  clear hc2 hc9 ht9
  go_wp2_with fail
  refine HC.out.mono ?_
  rintro e w2 ⟨rfl, hp⟩
  have HP := Hid.of hp
  clear hp
  dsimp only
  go_wp2
  go_ret
  exact ⟨rfl, HP.out⟩
set_option maxRecDepth 100000 in
set_option maxHeartbeats 1000000 in
theorem act_Rename1 (D : Nat) (room used wrs trn acts : Int) (vM vL vC vLo ft c0 c1 c2 : Value) (w : World) (hA : At w D 82 [.int .i64 room, .int .i64 used, .bool false, vM, vL, vC, vLo, .int .i64 wrs, .int .i64 trn, .int .i64 acts, .int .i64 0, ft]) (h0 : 0 ≤ acts) (h1 : acts ≤ 4611686018427387904) (Post : World → Prop)
    (H : ∀ w1, At w1 D 82 [.int .i64 room, .int .i64 used, .bool false, vM, vL, vC, vLo, .int .i64 wrs, .int .i64 trn, .int .i64 (acts + 1), .int .i64 0, ft] → w.grownBy w1 (some D) → Calls Tryd.prog 42 #[c0, c1, c2] w1 fun e w2 => e = .returned (.tuple #[]) ∧ Post w2) :
    Calls Tryd.prog 27 #[.pointer (some ⟨D, 0, none⟩), .int .i64 0, .func (.func 42) #[] #[c0, c1, c2]] w fun e w2 => e = .returned (.int .i64 0) ∧ Post w2 := by
  have hc2 := hA.cell (i := 2) rfl
  have hc9 := hA.cell (i := 9) rfl
  have ht9 := hA.thaw 9
  have HA1 := Hid.of (hA.set 9 (.int .i64 (acts + 1)))
  have HG1 := Hid.of (grown_at w D 9 (.int .i64 (acts + 1)))
  have HC := Hid.of (H _ HA1.out HG1.out)
  have HD := Hid.of (due_walk D (.int .i64 room) (.int .i64 used) (.bool false) vM vL vC vLo (.int .i64 wrs) (.int .i64 trn) (.int .i64 (acts + 1)) ft _ HA1.out)
  clear hA H HA1 HG1
  go_enter Tryd.func27, Tryd.ntmps27
  go_wp2_with fail
  refine HD.out.mono ?_
  rintro e w1 ⟨rfl, rfl⟩
  dsimp only
  clear hc2 hc9 ht9
  go_wp2_with fail
  refine HC.out.mono ?_
  rintro e w2 ⟨rfl, hp⟩
  have HP := Hid.of hp
  clear hp
  dsimp only
  go_wp2
  go_ret
  exact ⟨rfl, HP.out⟩
end Go.Proofs.YtepakbghhnkcfaaDoor
