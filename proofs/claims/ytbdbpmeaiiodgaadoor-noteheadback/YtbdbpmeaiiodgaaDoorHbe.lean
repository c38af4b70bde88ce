import Derived.Test.YtbdbpmeaiiodgaaDoorHba
import Derived.Test.YtbdbpmeaiiodgaaDoorHbb
import Derived.Test.YtbdbpmeaiiodgaaDoorHbc
import Derived.Test.YtbdbpmeaiiodgaaDoorHbd
namespace Go.Proofs.YtbdbpmeaiiodgaaDoor
open Go.RowKit TextNum
theorem headBack_walk (o : ByteArray) (n : Int) (r : List UInt8) (hr : r.length = 32) (h0 : -9223372036854775808 ≤ n) (h1 : n ≤ 9223372036854775807) (s : ByteArray) (w : World) (hG : GH w) :
    Calls Tryd.prog 6 #[headV o n r, .string s] w fun e w' => e = .returned (.bool true) ∧ Up w w' := by
  by_cases hn : nameR o = 0
  · by_cases hneg : n < 0
    · exact headBack_b o n r hr h0 h1 s w hG hn hneg
    · by_cases hbig : 281474976710656 < n
      · exact headBack_c o n r hr h0 h1 s w hG hn hneg hbig
      · exact headBack_d o n r hr h0 h1 s w hG hn hneg hbig
  · exact headBack_a o n r hr h0 h1 s w hG hn
end Go.Proofs.YtbdbpmeaiiodgaaDoor
