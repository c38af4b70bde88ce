import Derived.Test.YtpjfmkmgfjhnmaaPf
import Derived.Test.YtpjfmkmgfjhnmaaCv
namespace Go.Proofs.Ytpjfmkmgfjhnmaa
open Go.RowKit Tlg
set_option maxRecDepth 100000 in
set_option maxHeartbeats 4000000 in
theorem law_low (n i m : Int) (n0 : -9223372036854775808 ≤ n) (n1 : n ≤ 9223372036854775807) (m0 : -9223372036854775808 ≤ m) (m1 : m ≤ 9223372036854775807) (hn : n < 1) (w : World) :
    Calls Try.prog 3 #[.int .i64 n, .int .i64 i, .int .i64 m] w fun e w' => e = .returned (.bool true) ∧ Up w w' := by
  have HNO : Hid (win n i = false) := by
    rcases e : win n i with _ | _
    · rfl
    · have := win_iff.1 e; omega
  have HR := fun w => Hid.of (RecordPlaces_walk n i w)
  go_enter Try.func3, Try.ntmps3
  go_wp2_with fail
  refine (RecordPlaces_walk 2 0 _).mono ?_
  rintro e w1 ⟨r1, u1⟩
  obtain ⟨v1, rfl, q1⟩ := r1.1 (by decide)
  obtain ⟨g, c, g2, c2, rfl, d1, d2⟩ := two_fin (show WR w w1 2 0 false v1 from q1)
  have HU1 := Hid.of u1
  clear r1 q1 u1
  dsimp only
  go_wp2_with fail
  refine (HR _).out.mono ?_
  clear d1 d2
  rintro e w2 ⟨r2, u2⟩
  obtain rfl := r2.2 HNO.out
  have HU2 := Hid.of (HU1.out.trans u2)
  clear r2 u2 HU1 HNO
  dsimp only
  go_wp2_with fail
  have HTN : Hid (win n (tid m) = false) := by
    have h := tid_win (n := n) m0 m1
    rcases e : win n (tid m) with _ | _
    · rfl
    · have := h.1 e; omega
  refine (TreePlaces_walk _ m _).mono ?_
  rintro e w4 ⟨r4, u4⟩
  obtain rfl := r4.2 HTN.out
  have HU4 := Hid.of (HU2.out.trans u4)
  clear r4 u4 HU2 HTN
  dsimp only
  go_wp2
  go_ret
  exact ⟨by first | rfl | simp, HU4.out⟩
set_option maxRecDepth 100000 in
set_option maxHeartbeats 4000000 in
theorem law_big (n i m : Int) (n0 : -9223372036854775808 ≤ n) (n1 : n ≤ 9223372036854775807) (m0 : -9223372036854775808 ≤ m) (m1 : m ≤ 9223372036854775807) (hn : 281474976710656 < n) (w : World) :
    Calls Try.prog 3 #[.int .i64 n, .int .i64 i, .int .i64 m] w fun e w' => e = .returned (.bool true) ∧ Up w w' := by
  have HNO : Hid (win n i = false) := by
    rcases e : win n i with _ | _
    · rfl
    · have := win_iff.1 e; omega
  have hn1 : ¬ n < 1 := by omega
  have HR := fun w => Hid.of (RecordPlaces_walk n i w)
  go_enter Try.func3, Try.ntmps3
  go_wp2_with fail
  refine (RecordPlaces_walk 2 0 _).mono ?_
  rintro e w1 ⟨r1, u1⟩
  obtain ⟨v1, rfl, q1⟩ := r1.1 (by decide)
  obtain ⟨g, c, g2, c2, rfl, d1, d2⟩ := two_fin (show WR w w1 2 0 false v1 from q1)
  have HU1 := Hid.of u1
  clear r1 q1 u1
  dsimp only
  go_wp2_with fail
  refine (HR _).out.mono ?_
  clear d1 d2
  rintro e w2 ⟨r2, u2⟩
  obtain rfl := r2.2 HNO.out
  have HU2 := Hid.of (HU1.out.trans u2)
  clear r2 u2 HU1 HNO
  dsimp only
  go_wp2_with fail
  have HTN : Hid (win n (tid m) = false) := by
    have h := tid_win (n := n) m0 m1
    rcases e : win n (tid m) with _ | _
    · rfl
    · have := h.1 e; omega
  refine (TreePlaces_walk _ m _).mono ?_
  rintro e w4 ⟨r4, u4⟩
  obtain rfl := r4.2 HTN.out
  have HU4 := Hid.of (HU2.out.trans u4)
  clear r4 u4 HU2 HTN
  dsimp only
  go_wp2
  go_ret
  exact ⟨by first | rfl | simp, HU4.out⟩
end Go.Proofs.Ytpjfmkmgfjhnmaa
