import Derived.Test.YtfnbodpbdfeiiaaDoorFns3
namespace Go.Proofs.YtfnbodpbdfeiiaaDoor
open Go.RowKit Go.Shelf FieldNum

set_option maxHeartbeats 1000000 in
theorem times_any (x0 x1 x2 x3 y0 y1 y2 y3 : Int) (h0 : W x0) (h1 : W x1) (h2 : W x2) (h3 : W x3) (g0 : W y0) (g1 : W y1) (g2 : W y2) (g3 : W y3) (w : World) :
    Calls Tryd.prog 25 #[numW x0 x1 x2 x3, numW y0 y1 y2 y3] w fun e w' =>
      (∃ z0 z1 z2 z3 : Int, e = .returned (numW z0 z1 z2 z3) ∧ W z0 ∧ W z1 ∧ W z2 ∧ W z3 ∧
        V z0 z1 z2 z3 % pI = (V x0 x1 x2 x3 * V y0 y1 y2 y3) % pI) ∧ Grown w w' := by
  have z : W 0 := ⟨by decide, by decide⟩
  go_enter Tryd.func25, Tryd.ntmps25
  go_wp2_with fail
  refine (addRow_any 0 0 0 0 x0 y0 y1 y2 y3 z z z z h0 g0 g1 g2 g3 _).mono ?_
  rintro e w' ⟨⟨w0, a1, a2, a3, a4, rfl, i0, i1, i2, i3, i4, e0⟩, rfl⟩
  go_wp2_with fail
  refine (addRow_any a1 a2 a3 a4 x1 y0 y1 y2 y3 i1 i2 i3 i4 h1 g0 g1 g2 g3 _).mono ?_
  rintro e w' ⟨⟨w1, b2, b3, b4, b5, rfl, j1, j2, j3, j4, j5, e1⟩, rfl⟩
  go_wp2_with fail
  refine (addRow_any b2 b3 b4 b5 x2 y0 y1 y2 y3 j2 j3 j4 j5 h2 g0 g1 g2 g3 _).mono ?_
  rintro e w' ⟨⟨w2, c3, c4, c5, c6, rfl, k2, k3, k4, k5, k6, e2⟩, rfl⟩
  go_wp2_with fail
  refine (addRow_any c3 c4 c5 c6 x3 y0 y1 y2 y3 k3 k4 k5 k6 h3 g0 g1 g2 g3 _).mono ?_
  rintro e w' ⟨⟨w3, d4, d5, d6, d7, rfl, l3, l4, l5, l6, l7, e3⟩, rfl⟩
  go_wp2_with fail
  refine (addRow_any w0 w1 w2 w3 38 d4 d5 d6 d7 i0 j1 k2 l3 ⟨by decide, by decide⟩ l4 l5 l6 l7 _).mono ?_
  rintro e w' ⟨⟨t0, t1, t2, t3, t4, rfl, m0, m1, m2, m3, m4, e4⟩, rfl⟩
  have ht := t4_le i0 j1 k2 l3 m0 m1 m2 m3 (V_lt l4 l5 l6 l7) e4
  have E := times_eq e0 e1 e2 e3 e4
  clear e0 e1 e2 e3 e4
  go_wp2_with fail
  refine (plusHigh_any t0 t1 t2 t3 t4 m0 m1 m2 m3 m4.1 ht _).mono ?_
  rintro e w' ⟨⟨u0, u1, u2, u3, rfl, n0, n1, n2, n3, ke⟩, hg⟩
  have hw : Grown w w' := grown_trans (by go_grown) hg
  have hc_hg := grown_cell hg
  have hf_hg := hg.2.1
  have hs_hg := hg.2.2
  simp only [World.size_alloc] at hs_hg
  go_wp2
  refine bodyPost_ret (v := numW u0 u1 u2 u3) (by simp [results, Tryd.results25, go_sem, hc_hg]) rfl ?_
  exact ⟨⟨_, _, _, _, rfl, n0, n1, n2, n3, ke.trans E⟩, by go_grown⟩
end Go.Proofs.YtfnbodpbdfeiiaaDoor
