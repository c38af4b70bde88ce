import Derived.Test.YtfnbodpbdfeiiaaDoorNum
namespace FieldNum

/-- the number of four words -/
def V (a b c d : Int) : Int := a + 18446744073709551616 * b + 340282366920938463463374607431768211456 * c + 6277101735386680763835789423207666416102355444464034512896 * d

def W (x : Int) : Prop := 0 ≤ x ∧ x < 18446744073709551616

theorem W_mod (x : Int) : W (x % 18446744073709551616) := ⟨by omega, by omega⟩

theorem V_nonneg {a b c d : Int} (ha : W a) (hb : W b) (hc : W c) (hd : W d) : 0 ≤ V a b c d := by
  unfold V W at *; omega
theorem V_lt {a b c d : Int} (ha : W a) (hb : W b) (hc : W c) (hd : W d) : V a b c d < 115792089237316195423570985008687907853269984665640564039457584007913129639936 := by
  unfold V W at *; omega

/-- the prime, as an integer -/
abbrev pI : Int := 57896044618658097711785492504343953926634992332820282019728792003956564819949

/-- what addSmall tells -/
structure AddS (x0 x1 x2 x3 s y0 y1 y2 y3 c : Int) : Prop where
  w0 : W y0
  w1 : W y1
  w2 : W y2
  w3 : W y3
  c0 : 0 ≤ c
  c1 : c ≤ 1
  eq : V y0 y1 y2 y3 + 115792089237316195423570985008687907853269984665640564039457584007913129639936 * c = V x0 x1 x2 x3 + s

theorem addS_mk {x0 x1 x2 x3 s : Int} (h0 : W x0) (h1 : W x1) (h2 : W x2) (h3 : W x3) (hs : W s) :
    AddS x0 x1 x2 x3 s ((x0 + s) % 18446744073709551616) ((x1 + (x0 + s) / 18446744073709551616) % 18446744073709551616)
      ((x2 + (x1 + (x0 + s) / 18446744073709551616) / 18446744073709551616) % 18446744073709551616)
      ((x3 + (x2 + (x1 + (x0 + s) / 18446744073709551616) / 18446744073709551616) / 18446744073709551616) % 18446744073709551616)
      ((x3 + (x2 + (x1 + (x0 + s) / 18446744073709551616) / 18446744073709551616) / 18446744073709551616) / 18446744073709551616) := by
  unfold W at *
  refine ⟨W_mod _, W_mod _, W_mod _, W_mod _, by omega, by omega, ?_⟩
  unfold V; omega

/-- canonical: three times addSmall -/
theorem canon_eq {x0 x1 x2 x3 a0 a1 a2 a3 ac b0 b1 b2 b3 bc c0 c1 c2 c3 cc : Int}
    (h0 : W x0) (h1 : W x1) (h2 : W x2) (h3 : W x3)
    (A : AddS x0 x1 x2 (x3 % 9223372036854775808) (19 * (x3 / 9223372036854775808)) a0 a1 a2 a3 ac)
    (Bb : AddS a0 a1 a2 a3 19 b0 b1 b2 b3 bc)
    (C : AddS a0 a1 a2 a3 (19 * (b3 / 9223372036854775808)) c0 c1 c2 c3 cc) :
    V c0 c1 c2 (c3 % 9223372036854775808) = V x0 x1 x2 x3 % pI := by
  obtain ⟨A0, A1, A2, A3, Ac0, Ac1, Ae⟩ := A
  obtain ⟨B0, B1, B2, B3, Bc0, Bc1, Be⟩ := Bb
  obtain ⟨C0, C1, C2, C3, Cc0, Cc1, Ce⟩ := C
  unfold W at *
  have hx : x3 / 9223372036854775808 = 0 ∨ x3 / 9223372036854775808 = 1 := by omega
  have hb : b3 / 9223372036854775808 = 0 ∨ b3 / 9223372036854775808 = 1 := by omega
  have hc : c3 / 9223372036854775808 = 0 ∨ c3 / 9223372036854775808 = 1 := by omega
  have ex : x3 % 9223372036854775808 = x3 - 9223372036854775808 * (x3 / 9223372036854775808) := by omega
  have ec : c3 % 9223372036854775808 = c3 - 9223372036854775808 * (c3 / 9223372036854775808) := by omega
  have lx : 0 ≤ x3 % 9223372036854775808 ∧ x3 % 9223372036854775808 < 9223372036854775808 := by omega
  have lc : 0 ≤ c3 % 9223372036854775808 ∧ c3 % 9223372036854775808 < 9223372036854775808 := by omega
  have lb : 9223372036854775808 * (b3 / 9223372036854775808) ≤ b3 ∧ b3 < 9223372036854775808 * (b3 / 9223372036854775808) + 9223372036854775808 := by omega
  rw [ex] at Ae lx
  rw [ec] at lc ⊢
  generalize x3 / 9223372036854775808 = h at *
  generalize b3 / 9223372036854775808 = r at *
  generalize c3 / 9223372036854775808 = t at *
  have hac : ac = 0 := by
    unfold V at *
    rcases hx with rfl | rfl <;> omega
  subst hac
  have hbc : bc = 0 := by
    unfold V at *
    rcases hx with rfl | rfl <;> omega
  subst hbc
  have hcc : cc = 0 := by
    unfold V at *
    rcases hx with rfl | rfl <;> rcases hb with rfl | rfl <;> omega
  subst hcc
  have key : V c0 c1 c2 (c3 - 9223372036854775808 * t) + pI * (h + t) = V x0 x1 x2 x3 ∧ 0 ≤ V c0 c1 c2 (c3 - 9223372036854775808 * t) ∧ V c0 c1 c2 (c3 - 9223372036854775808 * t) < pI := by
    unfold V pI at *
    rcases hx with rfl | rfl <;> rcases hb with rfl | rfl <;> rcases hc with rfl | rfl <;> omega
  obtain ⟨k1, k2, k3⟩ := key
  rw [← k1, Int.add_mul_emod_self_left, Int.emod_eq_of_lt k2 k3]

theorem plusHigh_eq {x0 x1 x2 x3 h y0 y1 y2 y3 c : Int} (h0 : W x0) (h1 : W x1) (h2 : W x2) (h3 : W x3) (hh0 : 0 ≤ h) (hh : h ≤ 38)
    (A : AddS x0 x1 x2 x3 (38 * h) y0 y1 y2 y3 c) :
    W (y0 + 38 * c) ∧ V (y0 + 38 * c) y1 y2 y3 % pI = (V x0 x1 x2 x3 + 115792089237316195423570985008687907853269984665640564039457584007913129639936 * h) % pI := by
  obtain ⟨A0, A1, A2, A3, Ac0, Ac1, Ae⟩ := A
  unfold W V pI at *
  constructor <;> omega

/-- a borrow -/
def bor (x y : Int) : Int := if x < y then 1 else 0

theorem bor_01 (x y : Int) : 0 ≤ bor x y ∧ bor x y ≤ 1 := by unfold bor; split <;> decide

/-- what one difference tells -/
theorem bor_eq {x y b : Int} (hx : W x) (hy : W y) (hb : 0 ≤ b ∧ b ≤ 1) :
    W ((x - y - b) % 18446744073709551616) ∧ (x - y - b) % 18446744073709551616 = x - y - b + 18446744073709551616 * bor x (y + b) := by
  unfold W bor at *
  split <;> omega

/-- sums word by word -/
theorem plus_eq {x0 x1 x2 x3 y0 y1 y2 y3 : Int} (h0 : W x0) (h1 : W x1) (h2 : W x2) (h3 : W x3) (g0 : W y0) (g1 : W y1) (g2 : W y2) (g3 : W y3) :
    ∃ z0 z1 z2 z3 c0 c1 c2 c : Int,
      (x0 + y0) % 18446744073709551616 = z0 ∧ (x0 + y0) / 18446744073709551616 = c0 ∧
      (x1 + y1 + c0) % 18446744073709551616 = z1 ∧ (x1 + y1 + c0) / 18446744073709551616 = c1 ∧
      (x2 + y2 + c1) % 18446744073709551616 = z2 ∧ (x2 + y2 + c1) / 18446744073709551616 = c2 ∧
      (x3 + y3 + c2) % 18446744073709551616 = z3 ∧ (x3 + y3 + c2) / 18446744073709551616 = c ∧
      W z0 ∧ W z1 ∧ W z2 ∧ W z3 ∧ (0 ≤ c0 ∧ c0 ≤ 1) ∧ (0 ≤ c1 ∧ c1 ≤ 1) ∧ (0 ≤ c2 ∧ c2 ≤ 1) ∧ (0 ≤ c ∧ c ≤ 1) ∧
      V z0 z1 z2 z3 + 115792089237316195423570985008687907853269984665640564039457584007913129639936 * c = V x0 x1 x2 x3 + V y0 y1 y2 y3 := by
  refine ⟨_, _, _, _, _, _, _, _, rfl, rfl, rfl, rfl, rfl, rfl, rfl, rfl, W_mod _, W_mod _, W_mod _, W_mod _, ?_⟩
  unfold W at *
  refine ⟨by omega, by omega, by omega, by omega, ?_⟩
  unfold V; omega

/-- differences word by word -/
theorem minus_eq {x0 x1 x2 x3 y0 y1 y2 y3 : Int} (h0 : W x0) (h1 : W x1) (h2 : W x2) (h3 : W x3) (g0 : W y0) (g1 : W y1) (g2 : W y2) (g3 : W y3) :
    ∃ z0 z1 z2 z3 c0 c1 c2 c : Int,
      (x0 - y0) % 18446744073709551616 = z0 ∧ bor x0 y0 = c0 ∧
      (x1 - y1 - c0) % 18446744073709551616 = z1 ∧ bor x1 (y1 + c0) = c1 ∧
      (x2 - y2 - c1) % 18446744073709551616 = z2 ∧ bor x2 (y2 + c1) = c2 ∧
      (x3 - y3 - c2) % 18446744073709551616 = z3 ∧ bor x3 (y3 + c2) = c ∧
      W z0 ∧ W z1 ∧ W z2 ∧ W z3 ∧ (0 ≤ c0 ∧ c0 ≤ 1) ∧ (0 ≤ c1 ∧ c1 ≤ 1) ∧ (0 ≤ c2 ∧ c2 ≤ 1) ∧ (0 ≤ c ∧ c ≤ 1) ∧
      V z0 z1 z2 z3 = V x0 x1 x2 x3 - V y0 y1 y2 y3 + 115792089237316195423570985008687907853269984665640564039457584007913129639936 * c := by
  have e0 := bor_eq h0 g0 (b := 0) (by decide)
  simp only [Int.sub_zero, Int.add_zero] at e0
  have e1 := bor_eq h1 g1 (bor_01 x0 y0)
  have e2 := bor_eq h2 g2 (bor_01 x1 (y1 + bor x0 y0))
  have e3 := bor_eq h3 g3 (bor_01 x2 (y2 + bor x1 (y1 + bor x0 y0)))
  refine ⟨_, _, _, _, _, _, _, _, rfl, rfl, rfl, rfl, rfl, rfl, rfl, rfl, W_mod _, W_mod _, W_mod _, W_mod _, bor_01 _ _, bor_01 _ _, bor_01 _ _, bor_01 _ _, ?_⟩
  rw [e0.2, e1.2, e2.2, e3.2]
  unfold V; omega

/-- a borrow that is paid back -/
theorem minusBack_eq {x0 x1 x2 x3 y0 y1 y2 y3 z0 z1 z2 z3 b u0 u1 u2 u3 c : Int}
    (hz0 : W z0) (hz1 : W z1) (hz2 : W z2) (hz3 : W z3) (hb : 0 ≤ b ∧ b ≤ 1) (ez : V z0 z1 z2 z3 = V x0 x1 x2 x3 - V y0 y1 y2 y3 + 115792089237316195423570985008687907853269984665640564039457584007913129639936 * b)
    (hu0 : W u0) (hu1 : W u1) (hu2 : W u2) (hu3 : W u3) (hc : 0 ≤ c ∧ c ≤ 1) (eu : V u0 u1 u2 u3 = V z0 z1 z2 z3 - V (38 * b) 0 0 0 + 115792089237316195423570985008687907853269984665640564039457584007913129639936 * c) :
    W (u0 - 38 * c) ∧ (V (u0 - 38 * c) u1 u2 u3 + V y0 y1 y2 y3) % pI = V x0 x1 x2 x3 % pI := by
  have key : W (u0 - 38 * c) ∧ V (u0 - 38 * c) u1 u2 u3 + V y0 y1 y2 y3 = V x0 x1 x2 x3 + pI * (2 * (b + c)) := by
    have hb' : b = 0 ∨ b = 1 := by omega
    have hc' : c = 0 ∨ c = 1 := by omega
    generalize V x0 x1 x2 x3 = X at *
    generalize V y0 y1 y2 y3 = Y at *
    unfold W V pI at *
    rcases hb' with rfl | rfl <;> rcases hc' with rfl | rfl <;> constructor <;> omega
  refine ⟨key.1, ?_⟩
  rw [key.2, Int.add_mul_emod_self_left]

theorem mul_W {a b : Int} (ha : W a) (hb : W b) : 0 ≤ a * b ∧ a * b ≤ 18446744073709551615 * 18446744073709551615 := by
  obtain ⟨a0, a1⟩ := ha; obtain ⟨b0, b1⟩ := hb
  refine ⟨Int.mul_nonneg a0 b0, ?_⟩
  exact Int.mul_le_mul (by omega) (by omega) b0 (by decide)

/-- what addProduct tells -/
theorem addProduct_eq {s a b c : Int} (hs : W s) (ha : W a) (hb : W b) (hc : W c) :
    ∃ m hi lo l1 o1 h1 l2 o2 h2 : Int, a * b = m ∧ m / 18446744073709551616 = hi ∧ m % 18446744073709551616 = lo ∧
      (lo + s) % 18446744073709551616 = l1 ∧ (lo + s) / 18446744073709551616 = o1 ∧ hi + o1 = h1 ∧
      (l1 + c) % 18446744073709551616 = l2 ∧ (l1 + c) / 18446744073709551616 = o2 ∧ h1 + o2 = h2 ∧
      W hi ∧ W lo ∧ W l1 ∧ W l2 ∧ W h1 ∧ W h2 ∧ (0 ≤ o1 ∧ o1 ≤ 1) ∧ (0 ≤ o2 ∧ o2 ≤ 1) ∧ l2 + 18446744073709551616 * h2 = s + a * b + c := by
  have hm := mul_W ha hb
  refine ⟨_, _, _, _, _, _, _, _, _, rfl, rfl, rfl, rfl, rfl, rfl, rfl, rfl, rfl, ?_⟩
  generalize a * b = m at *
  unfold W at *
  refine ⟨by omega, by omega, by omega, by omega, by omega, by omega, by omega, by omega, ?_⟩
  omega

theorem addRow_eq {s0 s1 s2 s3 a x0 x1 x2 x3 t0 t1 t2 t3 t4 c0 c1 c2 : Int}
    (e0 : t0 + 18446744073709551616 * c0 = s0 + a * x0 + 0) (e1 : t1 + 18446744073709551616 * c1 = s1 + a * x1 + c0)
    (e2 : t2 + 18446744073709551616 * c2 = s2 + a * x2 + c1) (e3 : t3 + 18446744073709551616 * t4 = s3 + a * x3 + c2) :
    V t0 t1 t2 t3 + 115792089237316195423570985008687907853269984665640564039457584007913129639936 * t4 = V s0 s1 s2 s3 + a * V x0 x1 x2 x3 := by
  have : a * V x0 x1 x2 x3 = a * x0 + 18446744073709551616 * (a * x1) + 340282366920938463463374607431768211456 * (a * x2) + 6277101735386680763835789423207666416102355444464034512896 * (a * x3) := by
    unfold V; simp only [Int.mul_add, Int.mul_left_comm]
  rw [this]
  unfold V; omega

theorem times_eq {x0 x1 x2 x3 Y w0 a1 a2 a3 a4 w1 b2 b3 b4 b5 w2 c3 c4 c5 c6 w3 d4 d5 d6 d7 t0 t1 t2 t3 t4 : Int}
    (e0 : V w0 a1 a2 a3 + 115792089237316195423570985008687907853269984665640564039457584007913129639936 * a4 = V 0 0 0 0 + x0 * Y)
    (e1 : V w1 b2 b3 b4 + 115792089237316195423570985008687907853269984665640564039457584007913129639936 * b5 = V a1 a2 a3 a4 + x1 * Y)
    (e2 : V w2 c3 c4 c5 + 115792089237316195423570985008687907853269984665640564039457584007913129639936 * c6 = V b2 b3 b4 b5 + x2 * Y)
    (e3 : V w3 d4 d5 d6 + 115792089237316195423570985008687907853269984665640564039457584007913129639936 * d7 = V c3 c4 c5 c6 + x3 * Y)
    (e4 : V t0 t1 t2 t3 + 115792089237316195423570985008687907853269984665640564039457584007913129639936 * t4 = V w0 w1 w2 w3 + 38 * V d4 d5 d6 d7) :
    (V t0 t1 t2 t3 + 115792089237316195423570985008687907853269984665640564039457584007913129639936 * t4) % pI = (V x0 x1 x2 x3 * Y) % pI := by
  have : V x0 x1 x2 x3 * Y = x0 * Y + 18446744073709551616 * (x1 * Y) + 340282366920938463463374607431768211456 * (x2 * Y) + 6277101735386680763835789423207666416102355444464034512896 * (x3 * Y) := by
    unfold V; simp only [Int.add_mul, Int.mul_assoc]
  have h : V x0 x1 x2 x3 * Y = V t0 t1 t2 t3 + 115792089237316195423570985008687907853269984665640564039457584007913129639936 * t4 + pI * (2 * V d4 d5 d6 d7) := by
    rw [this, e4]
    generalize x0 * Y = m0 at *
    generalize x1 * Y = m1 at *
    generalize x2 * Y = m2 at *
    generalize x3 * Y = m3 at *
    unfold V pI at *
    omega
  rw [h, Int.add_mul_emod_self_left]

theorem t4_le {w0 w1 w2 w3 d t0 t1 t2 t3 t4 : Int} (h0 : W w0) (h1 : W w1) (h2 : W w2) (h3 : W w3) (g0 : W t0) (g1 : W t1) (g2 : W t2) (g3 : W t3)
    (hd : d < 115792089237316195423570985008687907853269984665640564039457584007913129639936)
    (e4 : V t0 t1 t2 t3 + 115792089237316195423570985008687907853269984665640564039457584007913129639936 * t4 = V w0 w1 w2 w3 + 38 * d) : t4 ≤ 38 := by
  unfold W V at *; omega

end FieldNum
