import Derived.Test.YtaobnnlcfefodaaDoorFb
import Derived.Laws.BitsAllLaws
namespace Go.Proofs.YtaobnnlcfefodaaDoor
open Go.RowKit TextNum
theorem orS32 (a b k : Nat) (hb : b < 2 ^ k) (h : 2 ^ k * a + b < 4294967296) : bits .or .u32 ((2 ^ k * a : Nat) : Int) (b : Int) = ((2 ^ k * a + b : Nat) : Int) := by
  rw [u32_or_nat _ _ (by omega) (by omega), Nat.two_pow_add_eq_or_of_lt hb]
theorem or_h4 (x0 x1 x2 x3 : UInt8) : bits .or .u32 (bits .or .u32 (bits .or .u32 ((x0.toNat : Int) * 16777216) ((x1.toNat : Int) * 65536)) ((x2.toNat : Int) * 256)) (x3.toNat : Int) = (h4 [x0, x1, x2, x3] : Int) := by
  have h0 := x0.toNat_lt
  have h1 := x1.toNat_lt
  have h2 := x2.toNat_lt
  have h3 := x3.toNat_lt
  have e1 := orS32 x0.toNat (x1.toNat * 65536) 24 (by omega) (by omega)
  have e2 := orS32 (x0.toNat * 256 + x1.toNat) (x2.toNat * 256) 16 (by omega) (by omega)
  have e3 := orS32 (x0.toNat * 65536 + x1.toNat * 256 + x2.toNat) x3.toNat 8 (by omega) (by omega)
  rw [show ((x0.toNat : Int) * 16777216) = ((2 ^ 24 * x0.toNat : Nat) : Int) by omega, show ((x1.toNat : Int) * 65536) = ((x1.toNat * 65536 : Nat) : Int) by omega, e1,
    show ((2 ^ 24 * x0.toNat + x1.toNat * 65536 : Nat) : Int) = ((2 ^ 16 * (x0.toNat * 256 + x1.toNat) : Nat) : Int) by omega, show ((x2.toNat : Int) * 256) = ((x2.toNat * 256 : Nat) : Int) by omega, e2,
    show ((2 ^ 16 * (x0.toNat * 256 + x1.toNat) + x2.toNat * 256 : Nat) : Int) = ((2 ^ 8 * (x0.toNat * 65536 + x1.toNat * 256 + x2.toNat) : Nat) : Int) by omega, e3]
  simp only [h4, List.getD_cons_zero, List.getD_cons_succ]
  omega
set_option maxRecDepth 100000 in
theorem hashNumber_walk (x0 x1 x2 x3 : UInt8) (w : World) : Calls Tryd.prog 58 #[.agg #[.int .u8 (x0.toNat : Int), .int .u8 (x1.toNat : Int), .int .u8 (x2.toNat : Int), .int .u8 (x3.toNat : Int)]] w fun e w' => e = .returned (.int .u32 (h4 [x0, x1, x2, x3] : Int)) ∧ Up w w' := by
  have h0 := x0.toNat_lt
  have h1 := x1.toNat_lt
  have h2 := x2.toNat_lt
  have h3 := x3.toNat_lt
  go_enter Tryd.func58, Tryd.ntmps58
  go_wp2
  go_ret
  refine ⟨?_, (Up.refl w).alloc _⟩
  rw [← or_h4]
  rfl
end Go.Proofs.YtaobnnlcfefodaaDoor
