import Derived.Test.YtfnbodpbdfeiiaaDoorFns
namespace Go.Proofs.YtfnbodpbdfeiiaaDoor
open Go.RowKit Go.Shelf FieldNum

theorem grown_block {W w' : World} (h : Grown W w') {n : Nat} (hn : n < W.heap.size) : w'.heap[n]? = W.heap[n]? := by
  have h3 := h.1.2.2 n hn
  cases e : W.heap[n]? with
  | none => rw [e] at h3; cases e' : w'.heap[n]? with
    | none => rfl
    | some o => rw [e'] at h3; exact h3
  | some o =>
    rw [e] at h3
    cases e' : w'.heap[n]? with
    | none => rw [e'] at h3; cases o <;> exact h3
    | some o' =>
      rw [e'] at h3
      cases o <;> cases o' <;> simp_all
      exact Array.ext_getElem? h3.2.2.2

theorem grown_cell {W w' : World} (h : Grown W w') (n i : Nat) (hn : n < W.heap.size) : w'.cell? ⟨n, i, none⟩ = W.cell? ⟨n, i, none⟩ := by
  have := grown_block h hn
  simp [World.cell?, this]

theorem grown_trans {a b c : World} (h1 : Grown a b) (h2 : Grown b c) : Grown a c :=
  ⟨World.keptBut_trans h1.1 h2.1, fun x => (h2.2.1 x).trans (h1.2.1 x), Nat.le_trans h1.2.2 h2.2.2⟩

/-- a number's words as a value -/
abbrev numW (x0 x1 x2 x3 : Int) : Value := .agg #[.int .u64 x0, .int .u64 x1, .int .u64 x2, .int .u64 x3]

theorem wrap19 {x : Int} (h : W x) : IntKind.u64.wrap (19 * (x / 9223372036854775808)) = 19 * (x / 9223372036854775808) := by
  unfold W at h; rw [IntKind.wrap_u64]; omega
theorem W19 {x : Int} (h : W x) : W (19 * (x / 9223372036854775808)) := by unfold W at *; omega
theorem W63 {x : Int} (_h : W x) : W (x % 9223372036854775808) := by unfold W at *; omega
theorem wrap38 {x : Int} (h0 : 0 ≤ x) (h1 : x ≤ 38) : IntKind.u64.wrap (38 * x) = 38 * x := by
  rw [IntKind.wrap_u64]; omega
theorem W38 {x : Int} (h0 : 0 ≤ x) (h1 : x ≤ 38) : W (38 * x) := by unfold W at *; omega
theorem wrapW {x : Int} (h : W x) : IntKind.u64.wrap x = x := by
  unfold W at h; rw [IntKind.wrap_u64]; omega

set_option maxHeartbeats 400000 in
theorem canonical_any (x0 x1 x2 x3 : Int) (h0 : W x0) (h1 : W x1) (h2 : W x2) (h3 : W x3) (w : World) :
    Calls Tryd.prog 29 #[.agg #[.int .u64 x0, .int .u64 x1, .int .u64 x2, .int .u64 x3]] w fun e w' =>
      (∃ y0 y1 y2 y3 : Int, e = .returned (.agg #[.int .u64 y0, .int .u64 y1, .int .u64 y2, .int .u64 y3]) ∧ W y0 ∧ W y1 ∧ W y2 ∧ W y3 ∧ V y0 y1 y2 y3 = V x0 x1 x2 x3 % pI) ∧ Grown w w' := by
  have m3 := and63 x3 h3
  have r3 := wrap19 h3
  go_enter Tryd.func29, Tryd.ntmps29
  go_wp2_with fail
  refine (addSmall_any x0 x1 x2 _ _ h0 h1 h2 (W63 h3) (W19 h3) _).mono ?_
  rintro e w' ⟨⟨a0, a1, a2, a3, ac, rfl, A⟩, rfl⟩
  go_wp2_with fail
  refine (addSmall_any a0 a1 a2 a3 19 A.w0 A.w1 A.w2 A.w3 ⟨by decide, by decide⟩ _).mono ?_
  rintro e w' ⟨⟨b0, b1, b2, b3, bc, rfl, B⟩, rfl⟩
  have rb := wrap19 B.w3
  go_wp2_with fail
  refine (addSmall_any a0 a1 a2 a3 _ A.w0 A.w1 A.w2 A.w3 (W19 B.w3) _).mono ?_
  rintro e w' ⟨⟨c0, c1, c2, c3, cc, rfl, C⟩, rfl⟩
  have mc := and63 c3 C.w3
  go_wp2
  go_returns
  exact ⟨⟨_, _, _, _, rfl, C.w0, C.w1, C.w2, W63 C.w3, canon_eq h0 h1 h2 h3 A B C⟩, by go_grown⟩

set_option maxHeartbeats 400000 in
theorem plusHigh_any (x0 x1 x2 x3 h : Int) (h0 : W x0) (h1 : W x1) (h2 : W x2) (h3 : W x3) (hh0 : 0 ≤ h) (hh1 : h ≤ 38) (w : World) :
    Calls Tryd.prog 39 #[.int .u64 x0, .int .u64 x1, .int .u64 x2, .int .u64 x3, .int .u64 h] w fun e w' =>
      (∃ y0 y1 y2 y3 : Int, e = .returned (.agg #[.int .u64 y0, .int .u64 y1, .int .u64 y2, .int .u64 y3]) ∧ W y0 ∧ W y1 ∧ W y2 ∧ W y3 ∧
        V y0 y1 y2 y3 % pI = (V x0 x1 x2 x3 + 115792089237316195423570985008687907853269984665640564039457584007913129639936 * h) % pI) ∧ Grown w w' := by
  have r := wrap38 hh0 hh1
  go_enter Tryd.func39, Tryd.ntmps39
  go_wp2_with fail
  refine (addSmall_any x0 x1 x2 x3 _ h0 h1 h2 h3 (W38 hh0 hh1) _).mono ?_
  rintro e w' ⟨⟨y0, y1, y2, y3, c, rfl, A⟩, rfl⟩
  obtain ⟨k1, k2⟩ := plusHigh_eq h0 h1 h2 h3 hh0 hh1 A
  have r1 := wrap38 A.c0 (Int.le_trans A.c1 (by decide))
  have r2 := wrapW k1
  go_wp2
  go_returns
  exact ⟨⟨_, _, _, _, rfl, k1, A.w1, A.w2, A.w3, k2⟩, by go_grown⟩

end Go.Proofs.YtfnbodpbdfeiiaaDoor
