import Derived.Test.YtdebcddbjkejmaaDoorRm
namespace Go.Proofs.YtdebcddbjkejmaaDoor
open Go.RowKit TextNum
set_option maxRecDepth 100000 in
theorem numbers_walk (s : ByteArray) (n max : Int) (h0 : -9223372036854775808 ≤ n) (h1 : n ≤ 9223372036854775807) (m0 : -9223372036854775808 ≤ max) (m1 : max ≤ 9223372036854775807) (w : World) (hG : GN w) :
    Calls Tryd.prog 7 #[.string s, .int .i64 n, .int .i64 max] w fun e w' => e = .returned (.bool true) ∧ Up w w' := by
  have HG := Hid.of hG
  clear hG
  go_enter Tryd.func7, Tryd.ntmps7
  go_wp2_with fail
  refine (ParseNumber_walk s max w HG.out).mono ?_
  rintro e w1 ⟨rfl, u1⟩
  have H1 := Hid.of u1
  clear u1
  dsimp only
  go_wp2_with fail
  refine (RParse_walk s max m0 m1 w1).mono ?_
  rintro e w2 ⟨rfl, u2⟩
  have H2 := Hid.of (H1.out.trans u2)
  clear u2 H1
  dsimp only
  generalize (prs s.data.toList max).1 = a
  generalize (prs s.data.toList max).2 = b
  have haa : (a == a) = true := by simp
  have hbb : (b == b) = true := by simp
  go_wp2_with fail
  refine (FormatNumber_walk n h0 h1 w2 (HG.out.up H2.out)).mono ?_
  rintro e w3 ⟨rfl, u3⟩
  have H3 := Hid.of (H2.out.trans u3)
  clear u3 H2
  dsimp only
  go_wp2_with fail
  refine (RFormat_walk n h0 h1 w3).mono ?_
  rintro e w4 ⟨rfl, u4⟩
  have H4 := Hid.of (H3.out.trans u4)
  clear u4 H3
  dsimp only
  go_wp2
  go_ret
  exact ⟨by simp, H4.out⟩
end Go.Proofs.YtdebcddbjkejmaaDoor
