import Derived.Test.YtbdmpdjhgjidlaaGreatDoorHf
import Derived.Test.YtbdmpdjhgjidlaaGreatDoorAs
namespace Go.Proofs.YtbdmpdjhgjidlaaGreatDoor
open Go.RowKit TextNum

set_option maxRecDepth 100000 in
theorem itself_walk (x : UInt8) (w : World) : Calls Tryz.prog 48 #[vb x] w fun e w' => e = .returned (.bool (its x)) ∧ w' = w := by
  have hE : its x = (decide (32 ≤ x.toNat) && decide (x.toNat ≤ 126) && decide (x.toNat ≠ 34) && decide (x.toNat ≠ 92)) := rfl
  rw [hE]
  rw [show vb x = .int .u8 (x.toNat : Int) from rfl]
  generalize x.toNat = n
  clear hE
  by_cases h1 : 32 ≤ n
  · by_cases h2 : n ≤ 126
    · by_cases h3 : n = 34
      · subst h3
        go_enter Tryz.func48, Tryz.ntmps48
        go_wp2
        go_ret
        exact ⟨by simp, rfl⟩
      · by_cases h4 : n = 92
        · subst h4
          go_enter Tryz.func48, Tryz.ntmps48
          go_wp2
          go_ret
          exact ⟨by simp, rfl⟩
        · have b3 : ((n : Int) == 34) = false := by simp; omega
          have b4 : ((n : Int) == 92) = false := by simp; omega
          have hs : (decide (32 ≤ n) && decide (n ≤ 126) && decide (n ≠ 34) && decide (n ≠ 92)) = true := by simp [h1, h2, h3, h4]
          rw [hs]
          go_enter Tryz.func48, Tryz.ntmps48
          go_wp2
          go_ret
          refine ⟨?_, rfl⟩
          show Ending.returned (Value.bool ((n : Int) != 34 && (n : Int) != 92)) = _
          simp [bne, b3, b4]
    · have hs : (decide (32 ≤ n) && decide (n ≤ 126) && decide (n ≠ 34) && decide (n ≠ 92)) = false := by simp [h2]
      rw [hs]
      go_enter Tryz.func48, Tryz.ntmps48
      go_wp2
      go_ret
      exact ⟨rfl, rfl⟩
  · have hs : (decide (32 ≤ n) && decide (n ≤ 126) && decide (n ≠ 34) && decide (n ≠ 92)) = false := by simp [h1]
    rw [hs]
    go_enter Tryz.func48, Tryz.ntmps48
    go_wp2
    go_ret
    exact ⟨rfl, rfl⟩
end Go.Proofs.YtbdmpdjhgjidlaaGreatDoor
