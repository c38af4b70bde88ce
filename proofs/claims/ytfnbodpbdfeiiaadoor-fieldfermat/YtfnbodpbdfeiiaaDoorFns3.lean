import Derived.Test.YtfnbodpbdfeiiaaDoorFns2
namespace Go.Proofs.YtfnbodpbdfeiiaaDoor
open Go.RowKit Go.Shelf FieldNum

set_option maxHeartbeats 400000 in
theorem plus_any (x0 x1 x2 x3 y0 y1 y2 y3 : Int) (h0 : W x0) (h1 : W x1) (h2 : W x2) (h3 : W x3) (g0 : W y0) (g1 : W y1) (g2 : W y2) (g3 : W y3) (w : World) :
    Calls Tryd.prog 33 #[numW x0 x1 x2 x3, numW y0 y1 y2 y3] w fun e w' =>
      (∃ z0 z1 z2 z3 : Int, e = .returned (numW z0 z1 z2 z3) ∧ W z0 ∧ W z1 ∧ W z2 ∧ W z3 ∧
        V z0 z1 z2 z3 % pI = (V x0 x1 x2 x3 + V y0 y1 y2 y3) % pI) ∧ Grown w w' := by
  obtain ⟨z0, z1, z2, z3, c0, c1, c2, c, p0, q0, p1, q1, p2, q2, p3, q3, w0, w1, w2, w3, d0, d1, d2, d3, ev⟩ := plus_eq h0 h1 h2 h3 g0 g1 g2 g3
  have e0 := fun w => add64_0 x0 y0 h0.1 g0.1 w
  have e1 := fun w => add64 x1 y1 c0 h1.1 g1.1 d0.1 d0.2 w
  have e2 := fun w => add64 x2 y2 c1 h2.1 g2.1 d1.1 d1.2 w
  have e3 := fun w => add64 x3 y3 c2 h3.1 g3.1 d2.1 d2.2 w
  rw [p0, q0] at e0
  rw [p1, q1] at e1
  rw [p2, q2] at e2
  rw [p3, q3] at e3
  clear p0 p1 p2 p3 q0 q1 q2 q3
  rw [← ev]
  go_enter Tryd.func33, Tryd.ntmps33
  go_wp2_with (first | simp only [e0] | simp only [e1] | simp only [e2] | simp only [e3])
  refine (plusHigh_any z0 z1 z2 z3 c w0 w1 w2 w3 d3.1 (Int.le_trans d3.2 (by decide)) _).mono ?_
  rintro e w' ⟨⟨u0, u1, u2, u3, rfl, k0, k1, k2, k3, ke⟩, hg⟩
  have hw : Grown w w' := grown_trans (by go_grown) hg
  have hc_hg := grown_cell hg
  have hf_hg := hg.2.1
  have hs_hg := hg.2.2
  simp only [World.size_alloc] at hs_hg
  clear e0 e1 e2 e3
  go_wp2
  refine bodyPost_ret (v := numW u0 u1 u2 u3) (by simp [results, Tryd.results33, go_sem, hc_hg]) rfl ?_
  exact ⟨⟨_, _, _, _, rfl, k0, k1, k2, k3, ke⟩, by go_grown⟩

set_option maxHeartbeats 400000 in
theorem minus_any (x0 x1 x2 x3 y0 y1 y2 y3 : Int) (h0 : W x0) (h1 : W x1) (h2 : W x2) (h3 : W x3) (g0 : W y0) (g1 : W y1) (g2 : W y2) (g3 : W y3) (w : World) :
    Calls Tryd.prog 42 #[numW x0 x1 x2 x3, numW y0 y1 y2 y3] w fun e w' =>
      (∃ z0 z1 z2 z3 : Int, e = .returned (numW z0 z1 z2 z3) ∧ W z0 ∧ W z1 ∧ W z2 ∧ W z3 ∧
        (V z0 z1 z2 z3 + V y0 y1 y2 y3) % pI = V x0 x1 x2 x3 % pI) ∧ Grown w w' := by
  obtain ⟨z0, z1, z2, z3, c0, c1, c2, c, p0, q0, p1, q1, p2, q2, p3, q3, w0, w1, w2, w3, d0, d1, d2, d3, ev⟩ := minus_eq h0 h1 h2 h3 g0 g1 g2 g3
  have e0 := fun w => sub64_0 x0 y0 h0.1 g0.1 g0.2 w
  have e1 := fun w => sub64 x1 y1 c0 h1.1 g1.1 g1.2 d0.1 d0.2 w
  have e2 := fun w => sub64 x2 y2 c1 h2.1 g2.1 g2.2 d1.1 d1.2 w
  have e3 := fun w => sub64 x3 y3 c2 h3.1 g3.1 g3.2 d2.1 d2.2 w
  rw [p0, q0] at e0
  rw [p1, q1] at e1
  rw [p2, q2] at e2
  rw [p3, q3] at e3
  clear p0 p1 p2 p3 q0 q1 q2 q3
  have z : W 0 := ⟨by decide, by decide⟩
  have h38 : W (38 * c) := W38 d3.1 (Int.le_trans d3.2 (by decide))
  have r1 := wrap38 d3.1 (Int.le_trans d3.2 (by decide))
  obtain ⟨u0, u1, u2, u3, b0, b1, b2, b, p0, q0, p1, q1, p2, q2, p3, q3, v0, v1, v2, v3, f0, f1, f2, f3, eu⟩ := minus_eq w0 w1 w2 w3 h38 z z z
  have i0 := fun w => sub64_0 z0 (38 * c) w0.1 h38.1 h38.2 w
  have i1 := fun w => sub64 z1 0 b0 w1.1 z.1 z.2 f0.1 f0.2 w
  have i2 := fun w => sub64 z2 0 b1 w2.1 z.1 z.2 f1.1 f1.2 w
  have i3 := fun w => sub64 z3 0 b2 w3.1 z.1 z.2 f2.1 f2.2 w
  rw [p0, q0] at i0
  rw [p1, q1] at i1
  rw [p2, q2] at i2
  rw [p3, q3] at i3
  clear p0 p1 p2 p3 q0 q1 q2 q3
  have r2 := wrap38 f3.1 (Int.le_trans f3.2 (by decide))
  obtain ⟨k1, k2⟩ := minusBack_eq w0 w1 w2 w3 d3 ev v0 v1 v2 v3 f3 eu
  have r3 := wrapW k1
  clear ev eu
  go_enter Tryd.func42, Tryd.ntmps42
  go_wp2_with (first | simp only [e0] | simp only [e1] | simp only [e2] | simp only [e3] | simp only [i0] | simp only [i1] | simp only [i2] | simp only [i3])
  clear e0 e1 e2 e3 i0 i1 i2 i3
  go_returns
  exact ⟨⟨_, _, _, _, rfl, k1, v1, v2, v3, k2⟩, by go_grown⟩

set_option maxHeartbeats 400000 in
theorem negated_any (x0 x1 x2 x3 : Int) (h0 : W x0) (h1 : W x1) (h2 : W x2) (h3 : W x3) (w : World) :
    Calls Tryd.prog 30 #[numW x0 x1 x2 x3] w fun e w' =>
      (∃ z0 z1 z2 z3 : Int, e = .returned (numW z0 z1 z2 z3) ∧ W z0 ∧ W z1 ∧ W z2 ∧ W z3 ∧
        (V z0 z1 z2 z3 + V x0 x1 x2 x3) % pI = V 0 0 0 0 % pI) ∧ Grown w w' := by
  have z : W 0 := ⟨by decide, by decide⟩
  go_enter Tryd.func30, Tryd.ntmps30
  go_wp2_with fail
  refine (minus_any 0 0 0 0 x0 x1 x2 x3 z z z z h0 h1 h2 h3 _).mono ?_
  rintro e w' ⟨⟨u0, u1, u2, u3, rfl, k0, k1, k2, k3, ke⟩, hg⟩
  have hw : Grown w w' := grown_trans (by go_grown) hg
  have hc_hg := grown_cell hg
  have hf_hg := hg.2.1
  have hs_hg := hg.2.2
  simp only [World.size_alloc] at hs_hg
  go_wp2
  refine bodyPost_ret (v := numW u0 u1 u2 u3) (by simp [results, Tryd.results30, go_sem, hc_hg]) rfl ?_
  exact ⟨⟨_, _, _, _, rfl, k0, k1, k2, k3, ke⟩, by go_grown⟩

set_option maxHeartbeats 400000 in
theorem addProduct_any (s a b c : Int) (hs : W s) (ha : W a) (hb : W b) (hc : W c) (w : World) :
    Calls Tryd.prog 46 #[.int .u64 s, .int .u64 a, .int .u64 b, .int .u64 c] w fun e w' =>
      (∃ hi lo : Int, e = .returned (.tuple #[.int .u64 hi, .int .u64 lo]) ∧ W hi ∧ W lo ∧ lo + 18446744073709551616 * hi = s + a * b + c) ∧ w' = w := by
  obtain ⟨m, hi, lo, l1, o1, m1, l2, o2, m2, em, p1, p2, p3, p4, p5, p6, p7, p8, whi, wlo, wl1, wl2, wm1, wm2, b1, b2, ev⟩ := addProduct_eq hs ha hb hc
  have cm := fun w => mul64 a b ha hb w
  have e1 := fun w => add64_0 lo s wlo.1 hs.1 w
  have e2 := fun w => add64_0 l1 c wl1.1 hc.1 w
  simp only [em, p1, p2] at cm
  rw [p3, p4] at e1
  rw [p6, p7] at e2
  have r1 : IntKind.u64.wrap (hi + o1) = m1 := by rw [p5]; exact wrapW wm1
  have r2 : IntKind.u64.wrap (m1 + o2) = m2 := by rw [p8]; exact wrapW wm2
  clear em p1 p2 p3 p4 p5 p6 p7 p8
  go_enter Tryd.func46, Tryd.ntmps46
  go_wp2_with fail
  refine (cm _).mono ?_
  rintro e w' ⟨rfl, rfl⟩
  go_wp2
  clear e1 e2 cm
  go_returns
  exact ⟨⟨_, _, rfl, wm2, wl2, ev⟩, rfl⟩

set_option maxHeartbeats 400000 in
theorem addRow_any (s0 s1 s2 s3 a x0 x1 x2 x3 : Int) (g0 : W s0) (g1 : W s1) (g2 : W s2) (g3 : W s3) (ha : W a) (h0 : W x0) (h1 : W x1) (h2 : W x2) (h3 : W x3) (w : World) :
    Calls Tryd.prog 38 #[.int .u64 s0, .int .u64 s1, .int .u64 s2, .int .u64 s3, .int .u64 a, .int .u64 x0, .int .u64 x1, .int .u64 x2, .int .u64 x3] w fun e w' =>
      (∃ t0 t1 t2 t3 t4 : Int, e = .returned (.tuple #[.int .u64 t0, .int .u64 t1, .int .u64 t2, .int .u64 t3, .int .u64 t4]) ∧ W t0 ∧ W t1 ∧ W t2 ∧ W t3 ∧ W t4 ∧
        V t0 t1 t2 t3 + 115792089237316195423570985008687907853269984665640564039457584007913129639936 * t4 = V s0 s1 s2 s3 + a * V x0 x1 x2 x3) ∧ w' = w := by
  have z : W 0 := ⟨by decide, by decide⟩
  go_enter Tryd.func38, Tryd.ntmps38
  go_wp2_with fail
  refine (addProduct_any s0 a x0 0 g0 ha h0 z _).mono ?_
  rintro e w' ⟨⟨c0, t0, rfl, k0, m0, e0⟩, rfl⟩
  go_wp2_with fail
  refine (addProduct_any s1 a x1 c0 g1 ha h1 k0 _).mono ?_
  rintro e w' ⟨⟨c1, t1, rfl, k1, m1, e1⟩, rfl⟩
  go_wp2_with fail
  refine (addProduct_any s2 a x2 c1 g2 ha h2 k1 _).mono ?_
  rintro e w' ⟨⟨c2, t2, rfl, k2, m2, e2⟩, rfl⟩
  go_wp2_with fail
  refine (addProduct_any s3 a x3 c2 g3 ha h3 k2 _).mono ?_
  rintro e w' ⟨⟨c3, t3, rfl, k3, m3, e3⟩, rfl⟩
  have E := addRow_eq e0 e1 e2 e3
  clear e0 e1 e2 e3
  go_wp2
  go_returns
  exact ⟨⟨_, _, _, _, _, rfl, m0, m1, m2, m3, k3, E⟩, rfl⟩
end Go.Proofs.YtfnbodpbdfeiiaaDoor
