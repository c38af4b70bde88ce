import Derived.Test.YtfnbodpbdfeiiaaDoorBits
namespace Go.Proofs.YtfnbodpbdfeiiaaDoor
open Go.RowKit Go.Shelf FieldNum

set_option maxHeartbeats 400000 in
theorem addSmall_any (x0 x1 x2 x3 s : Int) (h0 : W x0) (h1 : W x1) (h2 : W x2) (h3 : W x3) (hs : W s) (w : World) :
    Calls Tryd.prog 41 #[.int .u64 x0, .int .u64 x1, .int .u64 x2, .int .u64 x3, .int .u64 s] w fun e w' =>
      (∃ y0 y1 y2 y3 c : Int, e = .returned (.tuple #[.int .u64 y0, .int .u64 y1, .int .u64 y2, .int .u64 y3, .int .u64 c]) ∧ AddS x0 x1 x2 x3 s y0 y1 y2 y3 c) ∧ w' = w := by
  have A := addS_mk h0 h1 h2 h3 hs
  obtain ⟨a0, a1⟩ := h0; obtain ⟨b0, b1⟩ := h1; obtain ⟨c0, c1⟩ := h2; obtain ⟨d0, d1⟩ := h3; obtain ⟨s0, s1⟩ := hs
  have k0 : 0 ≤ (x0 + s) / 18446744073709551616 := by omega
  have k0' : (x0 + s) / 18446744073709551616 ≤ 1 := by omega
  have k1 : 0 ≤ (x1 + (x0 + s) / 18446744073709551616) / 18446744073709551616 := by omega
  have k1' : (x1 + (x0 + s) / 18446744073709551616) / 18446744073709551616 ≤ 1 := by omega
  have k2 : 0 ≤ (x2 + (x1 + (x0 + s) / 18446744073709551616) / 18446744073709551616) / 18446744073709551616 := by omega
  have k2' : (x2 + (x1 + (x0 + s) / 18446744073709551616) / 18446744073709551616) / 18446744073709551616 ≤ 1 := by omega
  have e0 := fun w => add64_0 x0 s a0 s0 w
  have e1 := fun w => add64 x1 0 _ b0 (Int.le_refl 0) k0 k0' w
  have e2 := fun w => add64 x2 0 _ c0 (Int.le_refl 0) k1 k1' w
  have e3 := fun w => add64 x3 0 _ d0 (Int.le_refl 0) k2 k2' w
  simp only [Int.add_zero] at e1 e2 e3
  generalize (x3 + (x2 + (x1 + (x0 + s) / 18446744073709551616) / 18446744073709551616) / 18446744073709551616) / 18446744073709551616 = o3 at *
  generalize (x3 + (x2 + (x1 + (x0 + s) / 18446744073709551616) / 18446744073709551616) / 18446744073709551616) % 18446744073709551616 = z3 at *
  generalize (x2 + (x1 + (x0 + s) / 18446744073709551616) / 18446744073709551616) / 18446744073709551616 = o2 at *
  generalize (x2 + (x1 + (x0 + s) / 18446744073709551616) / 18446744073709551616) % 18446744073709551616 = z2 at *
  generalize (x1 + (x0 + s) / 18446744073709551616) / 18446744073709551616 = o1 at *
  generalize (x1 + (x0 + s) / 18446744073709551616) % 18446744073709551616 = z1 at *
  generalize (x0 + s) / 18446744073709551616 = o0 at *
  generalize (x0 + s) % 18446744073709551616 = z0 at *
  go_enter Tryd.func41, Tryd.ntmps41
  go_wp2_with (first | simp only [e0] | simp only [e1] | simp only [e2] | simp only [e3])
  go_returns
  exact ⟨⟨_, _, _, _, _, rfl, A⟩, rfl⟩

/-- x and the mask of 63 bits -/
theorem and63 (x : Int) (h : W x) : bits .and .u64 x 9223372036854775807 = x % 9223372036854775808 := by
  obtain ⟨h0, h1⟩ := h
  obtain ⟨n, rfl⟩ := Int.eq_ofNat_of_zero_le h0
  have := bits_and_u64_nat n 9223372036854775807 (by omega) (by omega)
  have e : n &&& 9223372036854775807 = n % 9223372036854775808 := Nat.and_two_pow_sub_one_eq_mod n 63
  rw [e] at this
  exact this

end Go.Proofs.YtfnbodpbdfeiiaaDoor
