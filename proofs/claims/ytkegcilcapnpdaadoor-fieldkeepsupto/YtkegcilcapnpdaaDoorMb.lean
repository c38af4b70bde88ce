import Derived.Test.YtkegcilcapnpdaaDoorRows
import Derived.Test.YtkegcilcapnpdaaDoorMa
import Derived.Shelf.Bits.Mul64
import Derived.Shelf.Spec.BitsCarry
import Derived.WalkKit
import Derived.WalkSpells
import Derived.StillTactics
import Derived.Laws.Pointers
import Derived.RowKit3
import Derived.Handy
namespace Go.Proofs.YtkegcilcapnpdaaDoor
open Go.RowKit Go.Shelf FieldNum

def Tryd.lays25_ren : Go.Shelf.Ren := ⟨fun | 25 => 85 | n => n, fun | 22 => 64 | n => n, fun | n => n⟩
theorem Tryd.lays25 : Go.Proofs.Lays7.n25 Tryd.prog Tryd.lays25_ren := {
  mixed := by kernel_rfl
  f25 := Tryd.func85.trans (congrArg some (by kernel_rfl))
  t22 := Tryd.underlying64
  a22 := Tryd.isAgg64
  z22 := Tryd.sizeOf64
  v22 := Tryd.zeroValue64
  i22 := by kernel_rfl }
def Tryd.lays26_ren : Go.Shelf.Ren := ⟨fun | 26 => 89 | n => n, fun | 22 => 64 | n => n, fun | n => n⟩
theorem Tryd.lays26 : Go.Proofs.Lays7.n26 Tryd.prog Tryd.lays26_ren := {
  mixed := by kernel_rfl
  f26 := Tryd.func89.trans (congrArg some (by kernel_rfl))
  t22 := Tryd.underlying64
  a22 := Tryd.isAgg64
  z22 := Tryd.sizeOf64
  v22 := Tryd.zeroValue64
  i22 := by kernel_rfl }
def Tryd.lays264_ren : Go.Shelf.Ren := ⟨fun | 264 => 107 | n => n, fun | 53 => 64 | 46 => 81 | n => n, fun | n => n⟩
theorem Tryd.lays264 : Go.Proofs.Lays.n264 Tryd.prog Tryd.lays264_ren := {
  mixed := by kernel_rfl
  f264 := Tryd.func107.trans (congrArg some (by kernel_rfl))
  t46 := Tryd.underlying81
  a46 := Tryd.isAgg81
  z46 := Tryd.sizeOf81
  v46 := Tryd.zeroValue81
  t53 := Tryd.underlying64
  a53 := Tryd.isAgg64
  z53 := Tryd.sizeOf64
  v53 := Tryd.zeroValue64 }

/-- the sum of two words and a carry -/
theorem add64 (x y c : Int) (hx : 0 ≤ x) (hy : 0 ≤ y) (hc0 : 0 ≤ c) (hc : c ≤ 1) (w : World) :
    (callFunc 85 #[.int .u64 x, .int .u64 y, .int .u64 c]).run Tryd.prog w =
    .ok (.value (.tuple #[.int .u64 ((x + y + c) % 18446744073709551616), .int .u64 ((x + y + c) / 18446744073709551616)])) w := by
  obtain ⟨x, rfl⟩ := Int.eq_ofNat_of_zero_le hx
  obtain ⟨y, rfl⟩ := Int.eq_ofNat_of_zero_le hy
  obtain ⟨c, rfl⟩ := Int.eq_ofNat_of_zero_le hc0
  refine (Any7.bits_Add64 Tryd.lays25 x y c (by omega) w).trans ?_
  congr 5 <;> omega

theorem add64_0 (x y : Int) (hx : 0 ≤ x) (hy : 0 ≤ y) (w : World) :
    (callFunc 85 #[.int .u64 x, .int .u64 y, .int .u64 0]).run Tryd.prog w =
    .ok (.value (.tuple #[.int .u64 ((x + y) % 18446744073709551616), .int .u64 ((x + y) / 18446744073709551616)])) w := by
  simpa using add64 x y 0 hx hy (Int.le_refl 0) (by decide) w

theorem sub64 (x y b : Int) (hx : 0 ≤ x) (hy : 0 ≤ y) (hy' : y < 18446744073709551616) (hb0 : 0 ≤ b) (hb : b ≤ 1) (w : World) :
    (callFunc 89 #[.int .u64 x, .int .u64 y, .int .u64 b]).run Tryd.prog w =
    .ok (.value (.tuple #[.int .u64 ((x - y - b) % 18446744073709551616), .int .u64 (bor x (y + b))])) w := by
  obtain ⟨x, rfl⟩ := Int.eq_ofNat_of_zero_le hx
  obtain ⟨y, rfl⟩ := Int.eq_ofNat_of_zero_le hy
  obtain ⟨b, rfl⟩ := Int.eq_ofNat_of_zero_le hb0
  have e1 : (((x + 18446744073709551616 - y - b) % 18446744073709551616 : Nat) : Int) = ((x : Int) - y - b) % 18446744073709551616 := by omega
  have e2 : ((if x < y + b then 1 else 0 : Nat) : Int) = bor (x : Int) (y + b) := by unfold bor; split <;> split <;> omega
  rw [← e1, ← e2]
  exact Any7.bits_Sub64 Tryd.lays26 x y b (by omega) w

theorem sub64_0 (x y : Int) (hx : 0 ≤ x) (hy : 0 ≤ y) (hy' : y < 18446744073709551616) (w : World) :
    (callFunc 89 #[.int .u64 x, .int .u64 y, .int .u64 0]).run Tryd.prog w =
    .ok (.value (.tuple #[.int .u64 ((x - y) % 18446744073709551616), .int .u64 (bor x y)])) w := by
  simpa using sub64 x y 0 hx hy hy' (Int.le_refl 0) (by decide) w

/-- the product of two words -/
theorem mul64 (x y : Int) (hx : W x) (hy : W y) (w : World) :
    Calls Tryd.prog 107 #[.int .u64 x, .int .u64 y] w fun e w' =>
      e = .returned (.tuple #[.int .u64 (x * y / 18446744073709551616), .int .u64 (x * y % 18446744073709551616)]) ∧ w' = w := by
  obtain ⟨hx0, hx1⟩ := hx
  obtain ⟨hy0, hy1⟩ := hy
  obtain ⟨x, rfl⟩ := Int.eq_ofNat_of_zero_le hx0
  obtain ⟨y, rfl⟩ := Int.eq_ofNat_of_zero_le hy0
  have := Any.bits_Mul64 Tryd.lays264 x y (by omega) (by omega) w
  have e1 : ((x * y / 18446744073709551616 : Nat) : Int) = (x : Int) * y / 18446744073709551616 := by simp
  have e2 : ((x * y % 18446744073709551616 : Nat) : Int) = (x : Int) * y % 18446744073709551616 := by simp
  rw [e1, e2] at this
  exact this
end Go.Proofs.YtkegcilcapnpdaaDoor

namespace Go.Proofs.YtkegcilcapnpdaaDoor
open Go.RowKit Go.Shelf FieldNum

set_option maxHeartbeats 400000 in
theorem addSmall_any (x0 x1 x2 x3 s : Int) (h0 : W x0) (h1 : W x1) (h2 : W x2) (h3 : W x3) (hs : W s) (w : World) :
    Calls Tryd.prog 84 #[.int .u64 x0, .int .u64 x1, .int .u64 x2, .int .u64 x3, .int .u64 s] w fun e w' =>
      (∃ y0 y1 y2 y3 c : Int, e = .returned (.tuple #[.int .u64 y0, .int .u64 y1, .int .u64 y2, .int .u64 y3, .int .u64 c]) ∧ AddS x0 x1 x2 x3 s y0 y1 y2 y3 c) ∧ w' = w := by
  have A := addS_mk h0 h1 h2 h3 hs
  obtain ⟨a0, a1⟩ := h0; obtain ⟨b0, b1⟩ := h1; obtain ⟨c0, c1⟩ := h2; obtain ⟨d0, d1⟩ := h3; obtain ⟨s0, s1⟩ := hs
  have k0 : 0 ≤ (x0 + s) / 18446744073709551616 := by omega
  have k0' : (x0 + s) / 18446744073709551616 ≤ 1 := by omega
  have k1 : 0 ≤ (x1 + (x0 + s) / 18446744073709551616) / 18446744073709551616 := by omega
  have k1' : (x1 + (x0 + s) / 18446744073709551616) / 18446744073709551616 ≤ 1 := by omega
  have k2 : 0 ≤ (x2 + (x1 + (x0 + s) / 18446744073709551616) / 18446744073709551616) / 18446744073709551616 := by omega
  have k2' : (x2 + (x1 + (x0 + s) / 18446744073709551616) / 18446744073709551616) / 18446744073709551616 ≤ 1 := by omega
  have e0 := fun w => add64_0 x0 s a0 s0 w
  have e1 := fun w => add64 x1 0 _ b0 (Int.le_refl 0) k0 k0' w
  have e2 := fun w => add64 x2 0 _ c0 (Int.le_refl 0) k1 k1' w
  have e3 := fun w => add64 x3 0 _ d0 (Int.le_refl 0) k2 k2' w
  simp only [Int.add_zero] at e1 e2 e3
  generalize (x3 + (x2 + (x1 + (x0 + s) / 18446744073709551616) / 18446744073709551616) / 18446744073709551616) / 18446744073709551616 = o3 at *
  generalize (x3 + (x2 + (x1 + (x0 + s) / 18446744073709551616) / 18446744073709551616) / 18446744073709551616) % 18446744073709551616 = z3 at *
  generalize (x2 + (x1 + (x0 + s) / 18446744073709551616) / 18446744073709551616) / 18446744073709551616 = o2 at *
  generalize (x2 + (x1 + (x0 + s) / 18446744073709551616) / 18446744073709551616) % 18446744073709551616 = z2 at *
  generalize (x1 + (x0 + s) / 18446744073709551616) / 18446744073709551616 = o1 at *
  generalize (x1 + (x0 + s) / 18446744073709551616) % 18446744073709551616 = z1 at *
  generalize (x0 + s) / 18446744073709551616 = o0 at *
  generalize (x0 + s) % 18446744073709551616 = z0 at *
  go_enter Tryd.func84, Tryd.ntmps84
  go_wp2_with (first | simp only [e0] | simp only [e1] | simp only [e2] | simp only [e3])
  go_returns
  exact ⟨⟨_, _, _, _, _, rfl, A⟩, rfl⟩

/-- x and the mask of 63 bits -/
theorem and63 (x : Int) (h : W x) : bits .and .u64 x 9223372036854775807 = x % 9223372036854775808 := by
  obtain ⟨h0, h1⟩ := h
  obtain ⟨n, rfl⟩ := Int.eq_ofNat_of_zero_le h0
  have := bits_and_u64_nat n 9223372036854775807 (by omega) (by omega)
  have e : n &&& 9223372036854775807 = n % 9223372036854775808 := Nat.and_two_pow_sub_one_eq_mod n 63
  rw [e] at this
  exact this

end Go.Proofs.YtkegcilcapnpdaaDoor

namespace Go.Proofs.YtkegcilcapnpdaaDoor
open Go.RowKit Go.Shelf FieldNum

theorem grown_block {W w' : World} (h : Grown W w') {n : Nat} (hn : n < W.heap.size) : w'.heap[n]? = W.heap[n]? := by
  have h3 := h.1.2.2 n hn
  cases e : W.heap[n]? with
  | none => rw [e] at h3; cases e' : w'.heap[n]? with
    | none => rfl
    | some o => rw [e'] at h3; exact h3
  | some o =>
    rw [e] at h3
    cases e' : w'.heap[n]? with
    | none => rw [e'] at h3; cases o <;> exact h3
    | some o' =>
      rw [e'] at h3
      cases o <;> cases o' <;> simp_all
      exact Array.ext_getElem? h3.2.2.2

theorem grown_cell {W w' : World} (h : Grown W w') (n i : Nat) (hn : n < W.heap.size) : w'.cell? ⟨n, i, none⟩ = W.cell? ⟨n, i, none⟩ := by
  have := grown_block h hn
  simp [World.cell?, this]

theorem grown_trans {a b c : World} (h1 : Grown a b) (h2 : Grown b c) : Grown a c :=
  ⟨World.keptBut_trans h1.1 h2.1, fun x => (h2.2.1 x).trans (h1.2.1 x), Nat.le_trans h1.2.2 h2.2.2⟩

/-- a number's words as a value -/
abbrev numW (x0 x1 x2 x3 : Int) : Value := .agg #[.int .u64 x0, .int .u64 x1, .int .u64 x2, .int .u64 x3]

theorem wrap19 {x : Int} (h : W x) : IntKind.u64.wrap (19 * (x / 9223372036854775808)) = 19 * (x / 9223372036854775808) := by
  unfold W at h; rw [IntKind.wrap_u64]; omega
theorem W19 {x : Int} (h : W x) : W (19 * (x / 9223372036854775808)) := by unfold W at *; omega
theorem W63 {x : Int} (_h : W x) : W (x % 9223372036854775808) := by unfold W at *; omega
theorem wrap38 {x : Int} (h0 : 0 ≤ x) (h1 : x ≤ 38) : IntKind.u64.wrap (38 * x) = 38 * x := by
  rw [IntKind.wrap_u64]; omega
theorem W38 {x : Int} (h0 : 0 ≤ x) (h1 : x ≤ 38) : W (38 * x) := by unfold W at *; omega
theorem wrapW {x : Int} (h : W x) : IntKind.u64.wrap x = x := by
  unfold W at h; rw [IntKind.wrap_u64]; omega

set_option maxHeartbeats 400000 in
theorem canonical_any (x0 x1 x2 x3 : Int) (h0 : W x0) (h1 : W x1) (h2 : W x2) (h3 : W x3) (w : World) :
    Calls Tryd.prog 59 #[.agg #[.int .u64 x0, .int .u64 x1, .int .u64 x2, .int .u64 x3]] w fun e w' =>
      (∃ y0 y1 y2 y3 : Int, e = .returned (.agg #[.int .u64 y0, .int .u64 y1, .int .u64 y2, .int .u64 y3]) ∧ W y0 ∧ W y1 ∧ W y2 ∧ W y3 ∧ V y0 y1 y2 y3 = V x0 x1 x2 x3 % pI) ∧ Grown w w' := by
  have m3 := and63 x3 h3
  have r3 := wrap19 h3
  go_enter Tryd.func59, Tryd.ntmps59
  go_wp2_with fail
  refine (addSmall_any x0 x1 x2 _ _ h0 h1 h2 (W63 h3) (W19 h3) _).mono ?_
  rintro e w' ⟨⟨a0, a1, a2, a3, ac, rfl, A⟩, rfl⟩
  go_wp2_with fail
  refine (addSmall_any a0 a1 a2 a3 19 A.w0 A.w1 A.w2 A.w3 ⟨by decide, by decide⟩ _).mono ?_
  rintro e w' ⟨⟨b0, b1, b2, b3, bc, rfl, B⟩, rfl⟩
  have rb := wrap19 B.w3
  go_wp2_with fail
  refine (addSmall_any a0 a1 a2 a3 _ A.w0 A.w1 A.w2 A.w3 (W19 B.w3) _).mono ?_
  rintro e w' ⟨⟨c0, c1, c2, c3, cc, rfl, C⟩, rfl⟩
  have mc := and63 c3 C.w3
  go_wp2
  go_returns
  exact ⟨⟨_, _, _, _, rfl, C.w0, C.w1, C.w2, W63 C.w3, canon_eq h0 h1 h2 h3 A B C⟩, by go_grown⟩

set_option maxHeartbeats 400000 in
theorem plusHigh_any (x0 x1 x2 x3 h : Int) (h0 : W x0) (h1 : W x1) (h2 : W x2) (h3 : W x3) (hh0 : 0 ≤ h) (hh1 : h ≤ 38) (w : World) :
    Calls Tryd.prog 79 #[.int .u64 x0, .int .u64 x1, .int .u64 x2, .int .u64 x3, .int .u64 h] w fun e w' =>
      (∃ y0 y1 y2 y3 : Int, e = .returned (.agg #[.int .u64 y0, .int .u64 y1, .int .u64 y2, .int .u64 y3]) ∧ W y0 ∧ W y1 ∧ W y2 ∧ W y3 ∧
        V y0 y1 y2 y3 % pI = (V x0 x1 x2 x3 + 115792089237316195423570985008687907853269984665640564039457584007913129639936 * h) % pI) ∧ Grown w w' := by
  have r := wrap38 hh0 hh1
  go_enter Tryd.func79, Tryd.ntmps79
  go_wp2_with fail
  refine (addSmall_any x0 x1 x2 x3 _ h0 h1 h2 h3 (W38 hh0 hh1) _).mono ?_
  rintro e w' ⟨⟨y0, y1, y2, y3, c, rfl, A⟩, rfl⟩
  obtain ⟨k1, k2⟩ := plusHigh_eq h0 h1 h2 h3 hh0 hh1 A
  have r1 := wrap38 A.c0 (Int.le_trans A.c1 (by decide))
  have r2 := wrapW k1
  go_wp2
  go_returns
  exact ⟨⟨_, _, _, _, rfl, k1, A.w1, A.w2, A.w3, k2⟩, by go_grown⟩

end Go.Proofs.YtkegcilcapnpdaaDoor

namespace Go.Proofs.YtkegcilcapnpdaaDoor
open Go.RowKit Go.Shelf FieldNum

set_option maxHeartbeats 400000 in
theorem plus_any (x0 x1 x2 x3 y0 y1 y2 y3 : Int) (h0 : W x0) (h1 : W x1) (h2 : W x2) (h3 : W x3) (g0 : W y0) (g1 : W y1) (g2 : W y2) (g3 : W y3) (w : World) :
    Calls Tryd.prog 60 #[numW x0 x1 x2 x3, numW y0 y1 y2 y3] w fun e w' =>
      (∃ z0 z1 z2 z3 : Int, e = .returned (numW z0 z1 z2 z3) ∧ W z0 ∧ W z1 ∧ W z2 ∧ W z3 ∧
        V z0 z1 z2 z3 % pI = (V x0 x1 x2 x3 + V y0 y1 y2 y3) % pI) ∧ Grown w w' := by
  obtain ⟨z0, z1, z2, z3, c0, c1, c2, c, p0, q0, p1, q1, p2, q2, p3, q3, w0, w1, w2, w3, d0, d1, d2, d3, ev⟩ := plus_eq h0 h1 h2 h3 g0 g1 g2 g3
  have e0 := fun w => add64_0 x0 y0 h0.1 g0.1 w
  have e1 := fun w => add64 x1 y1 c0 h1.1 g1.1 d0.1 d0.2 w
  have e2 := fun w => add64 x2 y2 c1 h2.1 g2.1 d1.1 d1.2 w
  have e3 := fun w => add64 x3 y3 c2 h3.1 g3.1 d2.1 d2.2 w
  rw [p0, q0] at e0
  rw [p1, q1] at e1
  rw [p2, q2] at e2
  rw [p3, q3] at e3
  clear p0 p1 p2 p3 q0 q1 q2 q3
  rw [← ev]
  go_enter Tryd.func60, Tryd.ntmps60
  go_wp2_with (first | simp only [e0] | simp only [e1] | simp only [e2] | simp only [e3])
  refine (plusHigh_any z0 z1 z2 z3 c w0 w1 w2 w3 d3.1 (Int.le_trans d3.2 (by decide)) _).mono ?_
  rintro e w' ⟨⟨u0, u1, u2, u3, rfl, k0, k1, k2, k3, ke⟩, hg⟩
  have hw : Grown w w' := grown_trans (by go_grown) hg
  have hc_hg := grown_cell hg
  have hf_hg := hg.2.1
  have hs_hg := hg.2.2
  simp only [World.size_alloc] at hs_hg
  clear e0 e1 e2 e3
  go_wp2
  refine bodyPost_ret (v := numW u0 u1 u2 u3) (by simp [results, Tryd.results60, go_sem, hc_hg]) rfl ?_
  exact ⟨⟨_, _, _, _, rfl, k0, k1, k2, k3, ke⟩, by go_grown⟩

set_option maxHeartbeats 400000 in
theorem minus_any (x0 x1 x2 x3 y0 y1 y2 y3 : Int) (h0 : W x0) (h1 : W x1) (h2 : W x2) (h3 : W x3) (g0 : W y0) (g1 : W y1) (g2 : W y2) (g3 : W y3) (w : World) :
    Calls Tryd.prog 65 #[numW x0 x1 x2 x3, numW y0 y1 y2 y3] w fun e w' =>
      (∃ z0 z1 z2 z3 : Int, e = .returned (numW z0 z1 z2 z3) ∧ W z0 ∧ W z1 ∧ W z2 ∧ W z3 ∧
        (V z0 z1 z2 z3 + V y0 y1 y2 y3) % pI = V x0 x1 x2 x3 % pI) ∧ Grown w w' := by
  obtain ⟨z0, z1, z2, z3, c0, c1, c2, c, p0, q0, p1, q1, p2, q2, p3, q3, w0, w1, w2, w3, d0, d1, d2, d3, ev⟩ := minus_eq h0 h1 h2 h3 g0 g1 g2 g3
  have e0 := fun w => sub64_0 x0 y0 h0.1 g0.1 g0.2 w
  have e1 := fun w => sub64 x1 y1 c0 h1.1 g1.1 g1.2 d0.1 d0.2 w
  have e2 := fun w => sub64 x2 y2 c1 h2.1 g2.1 g2.2 d1.1 d1.2 w
  have e3 := fun w => sub64 x3 y3 c2 h3.1 g3.1 g3.2 d2.1 d2.2 w
  rw [p0, q0] at e0
  rw [p1, q1] at e1
  rw [p2, q2] at e2
  rw [p3, q3] at e3
  clear p0 p1 p2 p3 q0 q1 q2 q3
  have z : W 0 := ⟨by decide, by decide⟩
  have h38 : W (38 * c) := W38 d3.1 (Int.le_trans d3.2 (by decide))
  have r1 := wrap38 d3.1 (Int.le_trans d3.2 (by decide))
  obtain ⟨u0, u1, u2, u3, b0, b1, b2, b, p0, q0, p1, q1, p2, q2, p3, q3, v0, v1, v2, v3, f0, f1, f2, f3, eu⟩ := minus_eq w0 w1 w2 w3 h38 z z z
  have i0 := fun w => sub64_0 z0 (38 * c) w0.1 h38.1 h38.2 w
  have i1 := fun w => sub64 z1 0 b0 w1.1 z.1 z.2 f0.1 f0.2 w
  have i2 := fun w => sub64 z2 0 b1 w2.1 z.1 z.2 f1.1 f1.2 w
  have i3 := fun w => sub64 z3 0 b2 w3.1 z.1 z.2 f2.1 f2.2 w
  rw [p0, q0] at i0
  rw [p1, q1] at i1
  rw [p2, q2] at i2
  rw [p3, q3] at i3
  clear p0 p1 p2 p3 q0 q1 q2 q3
  have r2 := wrap38 f3.1 (Int.le_trans f3.2 (by decide))
  obtain ⟨k1, k2⟩ := minusBack_eq w0 w1 w2 w3 d3 ev v0 v1 v2 v3 f3 eu
  have r3 := wrapW k1
  clear ev eu
  go_enter Tryd.func65, Tryd.ntmps65
  go_wp2_with (first | simp only [e0] | simp only [e1] | simp only [e2] | simp only [e3] | simp only [i0] | simp only [i1] | simp only [i2] | simp only [i3])
  clear e0 e1 e2 e3 i0 i1 i2 i3
  go_returns
  exact ⟨⟨_, _, _, _, rfl, k1, v1, v2, v3, k2⟩, by go_grown⟩

set_option maxHeartbeats 400000 in
theorem negated_any (x0 x1 x2 x3 : Int) (h0 : W x0) (h1 : W x1) (h2 : W x2) (h3 : W x3) (w : World) :
    Calls Tryd.prog 57 #[numW x0 x1 x2 x3] w fun e w' =>
      (∃ z0 z1 z2 z3 : Int, e = .returned (numW z0 z1 z2 z3) ∧ W z0 ∧ W z1 ∧ W z2 ∧ W z3 ∧
        (V z0 z1 z2 z3 + V x0 x1 x2 x3) % pI = V 0 0 0 0 % pI) ∧ Grown w w' := by
  have z : W 0 := ⟨by decide, by decide⟩
  go_enter Tryd.func57, Tryd.ntmps57
  go_wp2_with fail
  refine (minus_any 0 0 0 0 x0 x1 x2 x3 z z z z h0 h1 h2 h3 _).mono ?_
  rintro e w' ⟨⟨u0, u1, u2, u3, rfl, k0, k1, k2, k3, ke⟩, hg⟩
  have hw : Grown w w' := grown_trans (by go_grown) hg
  have hc_hg := grown_cell hg
  have hf_hg := hg.2.1
  have hs_hg := hg.2.2
  simp only [World.size_alloc] at hs_hg
  go_wp2
  refine bodyPost_ret (v := numW u0 u1 u2 u3) (by simp [results, Tryd.results57, go_sem, hc_hg]) rfl ?_
  exact ⟨⟨_, _, _, _, rfl, k0, k1, k2, k3, ke⟩, by go_grown⟩

set_option maxHeartbeats 400000 in
theorem addProduct_any (s a b c : Int) (hs : W s) (ha : W a) (hb : W b) (hc : W c) (w : World) :
    Calls Tryd.prog 105 #[.int .u64 s, .int .u64 a, .int .u64 b, .int .u64 c] w fun e w' =>
      (∃ hi lo : Int, e = .returned (.tuple #[.int .u64 hi, .int .u64 lo]) ∧ W hi ∧ W lo ∧ lo + 18446744073709551616 * hi = s + a * b + c) ∧ w' = w := by
  obtain ⟨m, hi, lo, l1, o1, m1, l2, o2, m2, em, p1, p2, p3, p4, p5, p6, p7, p8, whi, wlo, wl1, wl2, wm1, wm2, b1, b2, ev⟩ := addProduct_eq hs ha hb hc
  have cm := fun w => mul64 a b ha hb w
  have e1 := fun w => add64_0 lo s wlo.1 hs.1 w
  have e2 := fun w => add64_0 l1 c wl1.1 hc.1 w
  simp only [em, p1, p2] at cm
  rw [p3, p4] at e1
  rw [p6, p7] at e2
  have r1 : IntKind.u64.wrap (hi + o1) = m1 := by rw [p5]; exact wrapW wm1
  have r2 : IntKind.u64.wrap (m1 + o2) = m2 := by rw [p8]; exact wrapW wm2
  clear em p1 p2 p3 p4 p5 p6 p7 p8
  go_enter Tryd.func105, Tryd.ntmps105
  go_wp2_with fail
  refine (cm _).mono ?_
  rintro e w' ⟨rfl, rfl⟩
  go_wp2
  clear e1 e2 cm
  go_returns
  exact ⟨⟨_, _, rfl, wm2, wl2, ev⟩, rfl⟩

set_option maxHeartbeats 400000 in
theorem addRow_any (s0 s1 s2 s3 a x0 x1 x2 x3 : Int) (g0 : W s0) (g1 : W s1) (g2 : W s2) (g3 : W s3) (ha : W a) (h0 : W x0) (h1 : W x1) (h2 : W x2) (h3 : W x3) (w : World) :
    Calls Tryd.prog 78 #[.int .u64 s0, .int .u64 s1, .int .u64 s2, .int .u64 s3, .int .u64 a, .int .u64 x0, .int .u64 x1, .int .u64 x2, .int .u64 x3] w fun e w' =>
      (∃ t0 t1 t2 t3 t4 : Int, e = .returned (.tuple #[.int .u64 t0, .int .u64 t1, .int .u64 t2, .int .u64 t3, .int .u64 t4]) ∧ W t0 ∧ W t1 ∧ W t2 ∧ W t3 ∧ W t4 ∧
        V t0 t1 t2 t3 + 115792089237316195423570985008687907853269984665640564039457584007913129639936 * t4 = V s0 s1 s2 s3 + a * V x0 x1 x2 x3) ∧ w' = w := by
  have z : W 0 := ⟨by decide, by decide⟩
  go_enter Tryd.func78, Tryd.ntmps78
  go_wp2_with fail
  refine (addProduct_any s0 a x0 0 g0 ha h0 z _).mono ?_
  rintro e w' ⟨⟨c0, t0, rfl, k0, m0, e0⟩, rfl⟩
  go_wp2_with fail
  refine (addProduct_any s1 a x1 c0 g1 ha h1 k0 _).mono ?_
  rintro e w' ⟨⟨c1, t1, rfl, k1, m1, e1⟩, rfl⟩
  go_wp2_with fail
  refine (addProduct_any s2 a x2 c1 g2 ha h2 k1 _).mono ?_
  rintro e w' ⟨⟨c2, t2, rfl, k2, m2, e2⟩, rfl⟩
  go_wp2_with fail
  refine (addProduct_any s3 a x3 c2 g3 ha h3 k2 _).mono ?_
  rintro e w' ⟨⟨c3, t3, rfl, k3, m3, e3⟩, rfl⟩
  have E := addRow_eq e0 e1 e2 e3
  clear e0 e1 e2 e3
  go_wp2
  go_returns
  exact ⟨⟨_, _, _, _, _, rfl, m0, m1, m2, m3, k3, E⟩, rfl⟩
end Go.Proofs.YtkegcilcapnpdaaDoor

namespace Go.Proofs.YtkegcilcapnpdaaDoor
open Go.RowKit Go.Shelf FieldNum

set_option maxHeartbeats 1000000 in
theorem times_any (x0 x1 x2 x3 y0 y1 y2 y3 : Int) (h0 : W x0) (h1 : W x1) (h2 : W x2) (h3 : W x3) (g0 : W y0) (g1 : W y1) (g2 : W y2) (g3 : W y3) (w : World) :
    Calls Tryd.prog 52 #[numW x0 x1 x2 x3, numW y0 y1 y2 y3] w fun e w' =>
      (∃ z0 z1 z2 z3 : Int, e = .returned (numW z0 z1 z2 z3) ∧ W z0 ∧ W z1 ∧ W z2 ∧ W z3 ∧
        V z0 z1 z2 z3 % pI = (V x0 x1 x2 x3 * V y0 y1 y2 y3) % pI) ∧ Grown w w' := by
  have z : W 0 := ⟨by decide, by decide⟩
  go_enter Tryd.func52, Tryd.ntmps52
  go_wp2_with fail
  refine (addRow_any 0 0 0 0 x0 y0 y1 y2 y3 z z z z h0 g0 g1 g2 g3 _).mono ?_
  rintro e w' ⟨⟨w0, a1, a2, a3, a4, rfl, i0, i1, i2, i3, i4, e0⟩, rfl⟩
  go_wp2_with fail
  refine (addRow_any a1 a2 a3 a4 x1 y0 y1 y2 y3 i1 i2 i3 i4 h1 g0 g1 g2 g3 _).mono ?_
  rintro e w' ⟨⟨w1, b2, b3, b4, b5, rfl, j1, j2, j3, j4, j5, e1⟩, rfl⟩
  go_wp2_with fail
  refine (addRow_any b2 b3 b4 b5 x2 y0 y1 y2 y3 j2 j3 j4 j5 h2 g0 g1 g2 g3 _).mono ?_
  rintro e w' ⟨⟨w2, c3, c4, c5, c6, rfl, k2, k3, k4, k5, k6, e2⟩, rfl⟩
  go_wp2_with fail
  refine (addRow_any c3 c4 c5 c6 x3 y0 y1 y2 y3 k3 k4 k5 k6 h3 g0 g1 g2 g3 _).mono ?_
  rintro e w' ⟨⟨w3, d4, d5, d6, d7, rfl, l3, l4, l5, l6, l7, e3⟩, rfl⟩
  go_wp2_with fail
  refine (addRow_any w0 w1 w2 w3 38 d4 d5 d6 d7 i0 j1 k2 l3 ⟨by decide, by decide⟩ l4 l5 l6 l7 _).mono ?_
  rintro e w' ⟨⟨t0, t1, t2, t3, t4, rfl, m0, m1, m2, m3, m4, e4⟩, rfl⟩
  have ht := t4_le i0 j1 k2 l3 m0 m1 m2 m3 (V_lt l4 l5 l6 l7) e4
  have E := times_eq e0 e1 e2 e3 e4
  clear e0 e1 e2 e3 e4
  go_wp2_with fail
  refine (plusHigh_any t0 t1 t2 t3 t4 m0 m1 m2 m3 m4.1 ht _).mono ?_
  rintro e w' ⟨⟨u0, u1, u2, u3, rfl, n0, n1, n2, n3, ke⟩, hg⟩
  have hw : Grown w w' := grown_trans (by go_grown) hg
  have hc_hg := grown_cell hg
  have hf_hg := hg.2.1
  have hs_hg := hg.2.2
  simp only [World.size_alloc] at hs_hg
  go_wp2
  refine bodyPost_ret (v := numW u0 u1 u2 u3) (by simp [results, Tryd.results52, go_sem, hc_hg]) rfl ?_
  exact ⟨⟨_, _, _, _, rfl, n0, n1, n2, n3, ke.trans E⟩, by go_grown⟩
end Go.Proofs.YtkegcilcapnpdaaDoor

namespace Go.Proofs.YtkegcilcapnpdaaDoor
open Go.RowKit Go.Shelf FieldNum

/-- block b holds the words of a number -/
structure Row4 (w : World) (b : Nat) (u0 u1 u2 u3 : Int) : Prop where
  c0 : w.cell? ⟨b, 0, none⟩ = some (.int .u64 u0)
  c1 : w.cell? ⟨b, 1, none⟩ = some (.int .u64 u1)
  c2 : w.cell? ⟨b, 2, none⟩ = some (.int .u64 u2)
  c3 : w.cell? ⟨b, 3, none⟩ = some (.int .u64 u3)
  fr : ∀ i, w.frozen? ⟨b, i, none⟩ = false

theorem Row4.grown {w w' : World} {b : Nat} {u0 u1 u2 u3 : Int} (h : Row4 w b u0 u1 u2 u3) (hg : Grown w w') : Row4 w' b u0 u1 u2 u3 := by
  have hb : b < w.heap.size := block_lt_of_cell h.c0
  have hc := fun i => grown_cell hg b i hb
  exact ⟨(hc 0).trans h.c0, (hc 1).trans h.c1, (hc 2).trans h.c2, (hc 3).trans h.c3, fun i => (hg.2.1 _).trans (h.fr i)⟩

/-- four stores -/
abbrev set4 (w : World) (b : Nat) (z0 z1 z2 z3 : Int) : World :=
  (((w.setCell ⟨b, 0, none⟩ (.int .u64 z0)).setCell ⟨b, 1, none⟩ (.int .u64 z1)).setCell ⟨b, 2, none⟩ (.int .u64 z2)).setCell ⟨b, 3, none⟩ (.int .u64 z3)

theorem Row4.set {w : World} {b : Nat} {u0 u1 u2 u3 : Int} (h : Row4 w b u0 u1 u2 u3) (z0 z1 z2 z3 : Int) : Row4 (set4 w b z0 z1 z2 z3) b z0 z1 z2 z3 := by
  obtain ⟨c0, c1, c2, c3, fr⟩ := h
  refine ⟨?_, ?_, ?_, ?_, fun i => ?_⟩ <;> simp [go_sem, c0, c1, c2, c3, fr]

theorem Row4.set_other {w : World} {b b' : Nat} {u0 u1 u2 u3 : Int} (h : Row4 w b u0 u1 u2 u3) (hb : b ≠ b') (z0 z1 z2 z3 : Int) : Row4 (set4 w b' z0 z1 z2 z3) b u0 u1 u2 u3 := by
  obtain ⟨c0, c1, c2, c3, fr⟩ := h
  refine ⟨?_, ?_, ?_, ?_, fun i => ?_⟩ <;> simp [go_sem, c0, c1, c2, c3, fr]

theorem pow_step {u X : Int} {k : Nat} {z : Int} (h : u % pI = X ^ (2 ^ k) % pI) (hz : z % pI = (u * u) % pI) : z % pI = X ^ (2 ^ (k + 1)) % pI := by
  rw [hz, Int.mul_emod, h, ← Int.mul_emod, Nat.pow_succ, Int.pow_mul, Int.pow_succ, Int.pow_succ, Int.pow_zero, Int.one_mul]

set_option maxHeartbeats 1000000 in
theorem squared_any (x0 x1 x2 x3 n : Int) (h0 : W x0) (h1 : W x1) (h2 : W x2) (h3 : W x3) (hn0 : 0 ≤ n) (hn : n ≤ 1000) (w : World) :
    Calls Tryd.prog 58 #[numW x0 x1 x2 x3, .int .i64 n] w fun e w' =>
      (∃ z0 z1 z2 z3 : Int, e = .returned (numW z0 z1 z2 z3) ∧ W z0 ∧ W z1 ∧ W z2 ∧ W z3 ∧
        V z0 z1 z2 z3 % pI = (V x0 x1 x2 x3 ^ (2 ^ n.toNat)) % pI) ∧ Grown w w' := by
  go_enter Tryd.func58, Tryd.ntmps58
  go_wp2
  go_loopw [6] (fun v6 wr => ∃ (k : Nat) (u0 u1 u2 u3 : Int), v6 = .int .i64 k ∧ (k : Int) ≤ n ∧ W u0 ∧ W u1 ∧ W u2 ∧ W u3 ∧ V u0 u1 u2 u3 % pI = V x0 x1 x2 x3 ^ (2 ^ k) % pI ∧
    Row4 wr w.heap.size u0 u1 u2 u3 ∧ Row4 wr (w.heap.size + 1) 0 0 0 0 ∧ w.heap.size + 2 ≤ wr.heap.size ∧ Grown w wr) (fun v6 wr => (n - intOf v6).toNat)
  case atStart =>
    refine ⟨0, x0, x1, x2, x3, rfl, hn0, h0, h1, h2, h3, by rw [Nat.pow_zero, Int.pow_succ, Int.pow_zero, Int.one_mul], ⟨?_, ?_, ?_, ?_, ?_⟩, ⟨?_, ?_, ?_, ?_, ?_⟩, by simp, by go_grown⟩ <;> simp [go_sem]
  case round =>
    obtain ⟨k, u0, u1, u2, u3, rfl, hk, i0, i1, i2, i3, hv, ⟨a0, a1, a2, a3, af⟩, ⟨b0, b1, b2, b3, bf⟩, hsz, hgr⟩ := hrel
    by_cases hlt : (k : Int) < n
    · go_wp2_with fail
      refine (times_any u0 u1 u2 u3 u0 u1 u2 u3 i0 i1 i2 i3 i0 i1 i2 i3 _).mono ?_
      rintro e w' ⟨⟨z0, z1, z2, z3, rfl, k0, k1, k2, k3, ke⟩, hg⟩
      have hw : Grown w w' := grown_trans hgr hg
      have ra := (Row4.mk a0 a1 a2 a3 af).grown hg
      have rb := (Row4.mk b0 b1 b2 b3 bf).grown hg
      have hs : w.heap.size + 2 ≤ w'.heap.size := Nat.le_trans hsz hg.2.2
      have hv' := pow_step hv ke
      clear hv ke a0 a1 a2 a3 af b0 b1 b2 b3 bf
      obtain ⟨a0, a1, a2, a3, af⟩ := ra
      go_wp2
      go_roundw
      case rel =>
        exact ⟨k + 1, z0, z1, z2, z3, by go_num, by omega, k0, k1, k2, k3, hv', (Row4.mk a0 a1 a2 a3 af).set z0 z1 z2 z3, rb.set_other (by omega) z0 z1 z2 z3, by simpa using hs, by go_grown⟩
      case measure => simp [intOf]; omega
    · have hkn : n.toNat = k := by omega
      go_wp2
      refine bodyPost_ret (v := numW u0 u1 u2 u3) (by simp [results, Tryd.results58, go_sem, b0, b1, b2, b3]) rfl ?_
      exact ⟨⟨_, _, _, _, rfl, i0, i1, i2, i3, hv⟩, by go_grown⟩
end Go.Proofs.YtkegcilcapnpdaaDoor
