import Derived.Test.YtfnbodpbdfeiiaaDoorFns4
namespace Go.Proofs.YtfnbodpbdfeiiaaDoor
open Go.RowKit Go.Shelf FieldNum

/-- block b holds the words of a number -/
structure Row4 (w : World) (b : Nat) (u0 u1 u2 u3 : Int) : Prop where
  c0 : w.cell? ⟨b, 0, none⟩ = some (.int .u64 u0)
  c1 : w.cell? ⟨b, 1, none⟩ = some (.int .u64 u1)
  c2 : w.cell? ⟨b, 2, none⟩ = some (.int .u64 u2)
  c3 : w.cell? ⟨b, 3, none⟩ = some (.int .u64 u3)
  fr : ∀ i, w.frozen? ⟨b, i, none⟩ = false

theorem Row4.grown {w w' : World} {b : Nat} {u0 u1 u2 u3 : Int} (h : Row4 w b u0 u1 u2 u3) (hg : Grown w w') : Row4 w' b u0 u1 u2 u3 := by
  have hb : b < w.heap.size := block_lt_of_cell h.c0
  have hc := fun i => grown_cell hg b i hb
  exact ⟨(hc 0).trans h.c0, (hc 1).trans h.c1, (hc 2).trans h.c2, (hc 3).trans h.c3, fun i => (hg.2.1 _).trans (h.fr i)⟩

/-- four stores -/
abbrev set4 (w : World) (b : Nat) (z0 z1 z2 z3 : Int) : World :=
  (((w.setCell ⟨b, 0, none⟩ (.int .u64 z0)).setCell ⟨b, 1, none⟩ (.int .u64 z1)).setCell ⟨b, 2, none⟩ (.int .u64 z2)).setCell ⟨b, 3, none⟩ (.int .u64 z3)

theorem Row4.set {w : World} {b : Nat} {u0 u1 u2 u3 : Int} (h : Row4 w b u0 u1 u2 u3) (z0 z1 z2 z3 : Int) : Row4 (set4 w b z0 z1 z2 z3) b z0 z1 z2 z3 := by
  obtain ⟨c0, c1, c2, c3, fr⟩ := h
  refine ⟨?_, ?_, ?_, ?_, fun i => ?_⟩ <;> simp [go_sem, c0, c1, c2, c3, fr]

theorem Row4.set_other {w : World} {b b' : Nat} {u0 u1 u2 u3 : Int} (h : Row4 w b u0 u1 u2 u3) (hb : b ≠ b') (z0 z1 z2 z3 : Int) : Row4 (set4 w b' z0 z1 z2 z3) b u0 u1 u2 u3 := by
  obtain ⟨c0, c1, c2, c3, fr⟩ := h
  refine ⟨?_, ?_, ?_, ?_, fun i => ?_⟩ <;> simp [go_sem, c0, c1, c2, c3, fr]

theorem pow_step {u X : Int} {k : Nat} {z : Int} (h : u % pI = X ^ (2 ^ k) % pI) (hz : z % pI = (u * u) % pI) : z % pI = X ^ (2 ^ (k + 1)) % pI := by
  rw [hz, Int.mul_emod, h, ← Int.mul_emod, Nat.pow_succ, Int.pow_mul, Int.pow_succ, Int.pow_succ, Int.pow_zero, Int.one_mul]

set_option maxHeartbeats 1000000 in
theorem squared_any (x0 x1 x2 x3 n : Int) (h0 : W x0) (h1 : W x1) (h2 : W x2) (h3 : W x3) (hn0 : 0 ≤ n) (hn : n ≤ 1000) (w : World) :
    Calls Tryd.prog 26 #[numW x0 x1 x2 x3, .int .i64 n] w fun e w' =>
      (∃ z0 z1 z2 z3 : Int, e = .returned (numW z0 z1 z2 z3) ∧ W z0 ∧ W z1 ∧ W z2 ∧ W z3 ∧
        V z0 z1 z2 z3 % pI = (V x0 x1 x2 x3 ^ (2 ^ n.toNat)) % pI) ∧ Grown w w' := by
  go_enter Tryd.func26, Tryd.ntmps26
  go_wp2
  go_loopw [6] (fun v6 wr => ∃ (k : Nat) (u0 u1 u2 u3 : Int), v6 = .int .i64 k ∧ (k : Int) ≤ n ∧ W u0 ∧ W u1 ∧ W u2 ∧ W u3 ∧ V u0 u1 u2 u3 % pI = V x0 x1 x2 x3 ^ (2 ^ k) % pI ∧
    Row4 wr w.heap.size u0 u1 u2 u3 ∧ Row4 wr (w.heap.size + 1) 0 0 0 0 ∧ w.heap.size + 2 ≤ wr.heap.size ∧ Grown w wr) (fun v6 wr => (n - intOf v6).toNat)
  case atStart =>
    refine ⟨0, x0, x1, x2, x3, rfl, hn0, h0, h1, h2, h3, by rw [Nat.pow_zero, Int.pow_succ, Int.pow_zero, Int.one_mul], ⟨?_, ?_, ?_, ?_, ?_⟩, ⟨?_, ?_, ?_, ?_, ?_⟩, by simp, by go_grown⟩ <;> simp [go_sem]
  case round =>
    obtain ⟨k, u0, u1, u2, u3, rfl, hk, i0, i1, i2, i3, hv, ⟨a0, a1, a2, a3, af⟩, ⟨b0, b1, b2, b3, bf⟩, hsz, hgr⟩ := hrel
    by_cases hlt : (k : Int) < n
    · go_wp2_with fail
      refine (times_any u0 u1 u2 u3 u0 u1 u2 u3 i0 i1 i2 i3 i0 i1 i2 i3 _).mono ?_
      rintro e w' ⟨⟨z0, z1, z2, z3, rfl, k0, k1, k2, k3, ke⟩, hg⟩
      have hw : Grown w w' := grown_trans hgr hg
      have ra := (Row4.mk a0 a1 a2 a3 af).grown hg
      have rb := (Row4.mk b0 b1 b2 b3 bf).grown hg
      have hs : w.heap.size + 2 ≤ w'.heap.size := Nat.le_trans hsz hg.2.2
      have hv' := pow_step hv ke
      clear hv ke a0 a1 a2 a3 af b0 b1 b2 b3 bf
      obtain ⟨a0, a1, a2, a3, af⟩ := ra
      go_wp2
      go_roundw
      case rel =>
        exact ⟨k + 1, z0, z1, z2, z3, by go_num, by omega, k0, k1, k2, k3, hv', (Row4.mk a0 a1 a2 a3 af).set z0 z1 z2 z3, rb.set_other (by omega) z0 z1 z2 z3, by simpa using hs, by go_grown⟩
      case measure => simp [intOf]; omega
    · have hkn : n.toNat = k := by omega
      go_wp2
      refine bodyPost_ret (v := numW u0 u1 u2 u3) (by simp [results, Tryd.results26, go_sem, b0, b1, b2, b3]) rfl ?_
      exact ⟨⟨_, _, _, _, rfl, i0, i1, i2, i3, hv⟩, by go_grown⟩
end Go.Proofs.YtfnbodpbdfeiiaaDoor
