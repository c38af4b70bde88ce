import Derived.Test.YtpjfmkmgfjhnmaaWb
import Derived.Test.YtpjfmkmgfjhnmaaOw
import Derived.Test.YtpjfmkmgfjhnmaaMt
import Derived.Test.YtpjfmkmgfjhnmaaSl
import Derived.Lib.ItoaNum
namespace Go.Proofs.Ytpjfmkmgfjhnmaa
open Go.RowKit Tlg

theorem bitLen_lg {x : Nat} (h : 0 < x) (hx : x < 2 ^ 64) : Go.Lib.bitLen x = lg x + 1 := by
  obtain ⟨a, b, c⟩ := Go.Lib.bitLenAux_bounds 64 x hx (by omega)
  unfold Go.Lib.bitLen
  have := lg_uniq b (by rw [Nat.sub_add_cancel a]; exact c)
  omega
theorem Len_walk (x : Nat) (h : 0 < x) (hx : x < 18446744073709551616) (w : World) : Calls Try.prog 22 #[.int .u64 (x : Int)] w fun e w' => e = .returned (.int .i64 ((lg x : Int) + 1)) ∧ w' = w := by
  have := Any.bits_Len64 Try.lays129 (x : Int) w (by omega) (by omega)
  rw [Int.toNat_natCast, bitLen_lg h hx] at this
  exact this

abbrev sp (a b : Nat) : Value := .agg #[.int .i64 (a : Int), .int .i64 (b : Int)]

set_option maxRecDepth 100000 in
theorem size_walk (a b : Nat) (h : a ≤ b) (hb : b ≤ 281474976710656) (w : World) : Calls Try.prog 21 #[sp a b] w fun e w' => e = .returned (.int .i64 ((b - a : Nat) : Int)) ∧ Up w w' := by
  have HU : Hid (∀ o, Up w (w.alloc o)) := fun o => (Up.refl _).alloc o
  have e : (b : Int) - (a : Int) = ((b - a : Nat) : Int) := by omega
  go_enter Try.func21, Try.ntmps21
  go_wp2
  go_ret
  exact ⟨rfl, HU.out _⟩
end Go.Proofs.Ytpjfmkmgfjhnmaa
