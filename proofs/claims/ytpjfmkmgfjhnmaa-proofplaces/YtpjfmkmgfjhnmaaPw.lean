import Derived.Test.YtpjfmkmgfjhnmaaPw1
import Derived.Test.YtpjfmkmgfjhnmaaPw2
import Derived.Test.YtpjfmkmgfjhnmaaPw3
import Derived.Test.YtpjfmkmgfjhnmaaPw4
namespace Go.Proofs.Ytpjfmkmgfjhnmaa
open Go.RowKit Tlg
theorem law_walk (n i m : Int) (n0 : -9223372036854775808 ≤ n) (n1 : n ≤ 9223372036854775807) (m0 : -9223372036854775808 ≤ m) (m1 : m ≤ 9223372036854775807) (w : World) :
    Calls Try.prog 3 #[.int .i64 n, .int .i64 i, .int .i64 m] w fun e w' => e = .returned (.bool true) ∧ Up w w' := by
  by_cases h1 : n < 1
  · exact law_low n i m n0 n1 m0 m1 h1 w
  by_cases h2 : 281474976710656 < n
  · exact law_big n i m n0 n1 m0 m1 h2 w
  by_cases h3 : i < 0
  · exact law_neg n i m n0 n1 m0 m1 (by omega) (by omega) h3 w
  by_cases h4 : n ≤ i
  · exact law_past n i m n0 n1 m0 m1 (by omega) (by omega) h4 w
  exact law_ok n i m n0 n1 m0 m1 (by omega) (by omega) (by omega) (by omega) w
end Go.Proofs.Ytpjfmkmgfjhnmaa
