import Derived.Test.YtfnbodpbdfeiiaaDoorBy
namespace Go.Proofs.YtfnbodpbdfeiiaaDoor
open Go.RowKit Go.Shelf FieldNum

/-- 2^256 -/
abbrev M : Nat := 115792089237316195423570985008687907853269984665640564039457584007913129639936

/-- a number of the program -/
def numV (x : Nat) : Value := numW ((x / 256 ^ 0 % 18446744073709551616 : Nat) : Int) ((x / 256 ^ 8 % 18446744073709551616 : Nat) : Int) ((x / 256 ^ 16 % 18446744073709551616 : Nat) : Int) ((x / 256 ^ 24 % 18446744073709551616 : Nat) : Int)

theorem words_of_num (x : Nat) (hx : x < M) : ∃ x0 x1 x2 x3 : Int, numV x = numW x0 x1 x2 x3 ∧ W x0 ∧ W x1 ∧ W x2 ∧ W x3 ∧ V x0 x1 x2 x3 = (x : Int) := by
  refine ⟨_, _, _, _, rfl, ?_⟩
  unfold W V M at *
  simp only [Nat.reducePow]
  omega

theorem num_of_words {z0 z1 z2 z3 : Int} (k0 : W z0) (k1 : W z1) (k2 : W z2) (k3 : W z3) : ∃ z : Nat, z < M ∧ numW z0 z1 z2 z3 = numV z ∧ (z : Int) = V z0 z1 z2 z3 := by
  have h1 := V_nonneg k0 k1 k2 k3
  have h2 := V_lt k0 k1 k2 k3
  refine ⟨(V z0 z1 z2 z3).toNat, by unfold M; omega, ?_, by omega⟩
  obtain ⟨z, hz⟩ : ∃ z : Nat, (z : Int) = V z0 z1 z2 z3 := ⟨(V z0 z1 z2 z3).toNat, by omega⟩
  have hz' : (V z0 z1 z2 z3).toNat = z := by omega
  rw [hz']
  unfold V W at *
  have e0 : ((z / 256 ^ 0 % 18446744073709551616 : Nat) : Int) = z0 := by simp only [Nat.reducePow]; omega
  have e1 : ((z / 256 ^ 8 % 18446744073709551616 : Nat) : Int) = z1 := by simp only [Nat.reducePow]; omega
  have e2 : ((z / 256 ^ 16 % 18446744073709551616 : Nat) : Int) = z2 := by simp only [Nat.reducePow]; omega
  have e3 : ((z / 256 ^ 24 % 18446744073709551616 : Nat) : Int) = z3 := by simp only [Nat.reducePow]; omega
  unfold numV
  rw [e0, e1, e2, e3]

theorem modN {z x : Nat} (h : (z : Int) % pI = (x : Int) % pI) : z % p = x % p := by
  have hp : pI = ((p : Nat) : Int) := rfl
  rw [hp] at h
  omega

theorem load_num (x : Nat) (w : World) : Calls Tryd.prog 23 #[bv x] w fun e w' => e = .returned (numV x) ∧ Grown w w' := load_any x w

theorem times_num (x y : Nat) (hx : x < M) (hy : y < M) (w : World) :
    Calls Tryd.prog 25 #[numV x, numV y] w fun e w' => (∃ z, e = .returned (numV z) ∧ z < M ∧ z % p = x * y % p) ∧ Grown w w' := by
  obtain ⟨x0, x1, x2, x3, e, a0, a1, a2, a3, ev⟩ := words_of_num x hx
  obtain ⟨y0, y1, y2, y3, e', b0, b1, b2, b3, ev'⟩ := words_of_num y hy
  rw [e, e']
  refine (times_any x0 x1 x2 x3 y0 y1 y2 y3 a0 a1 a2 a3 b0 b1 b2 b3 w).mono ?_
  rintro e w' ⟨⟨z0, z1, z2, z3, rfl, k0, k1, k2, k3, ke⟩, hg⟩
  obtain ⟨z, hz, ez, vz⟩ := num_of_words k0 k1 k2 k3
  refine ⟨⟨z, by rw [ez], hz, modN ?_⟩, hg⟩
  rw [vz, ke, ev, ev']; simp

theorem plus_num (x y : Nat) (hx : x < M) (hy : y < M) (w : World) :
    Calls Tryd.prog 33 #[numV x, numV y] w fun e w' => (∃ z, e = .returned (numV z) ∧ z < M ∧ z % p = (x + y) % p) ∧ Grown w w' := by
  obtain ⟨x0, x1, x2, x3, e, a0, a1, a2, a3, ev⟩ := words_of_num x hx
  obtain ⟨y0, y1, y2, y3, e', b0, b1, b2, b3, ev'⟩ := words_of_num y hy
  rw [e, e']
  refine (plus_any x0 x1 x2 x3 y0 y1 y2 y3 a0 a1 a2 a3 b0 b1 b2 b3 w).mono ?_
  rintro e w' ⟨⟨z0, z1, z2, z3, rfl, k0, k1, k2, k3, ke⟩, hg⟩
  obtain ⟨z, hz, ez, vz⟩ := num_of_words k0 k1 k2 k3
  refine ⟨⟨z, by rw [ez], hz, modN ?_⟩, hg⟩
  rw [vz, ke, ev, ev']; simp

theorem minus_num (x y : Nat) (hx : x < M) (hy : y < M) (w : World) :
    Calls Tryd.prog 42 #[numV x, numV y] w fun e w' => (∃ z, e = .returned (numV z) ∧ z < M ∧ z % p = sb x y) ∧ Grown w w' := by
  obtain ⟨x0, x1, x2, x3, e, a0, a1, a2, a3, ev⟩ := words_of_num x hx
  obtain ⟨y0, y1, y2, y3, e', b0, b1, b2, b3, ev'⟩ := words_of_num y hy
  rw [e, e']
  refine (minus_any x0 x1 x2 x3 y0 y1 y2 y3 a0 a1 a2 a3 b0 b1 b2 b3 w).mono ?_
  rintro e w' ⟨⟨z0, z1, z2, z3, rfl, k0, k1, k2, k3, ke⟩, hg⟩
  obtain ⟨z, hz, ez, vz⟩ := num_of_words k0 k1 k2 k3
  refine ⟨⟨z, by rw [ez], hz, sb_uniq (Nat.mod_lt _ p_pos) ?_⟩, hg⟩
  rw [Nat.mod_add_mod]
  apply modN
  rw [← ev, ← ke, ← vz, ev']; simp

theorem negated_num (x : Nat) (hx : x < M) (w : World) :
    Calls Tryd.prog 30 #[numV x] w fun e w' => (∃ z, e = .returned (numV z) ∧ z < M ∧ z % p = ng x) ∧ Grown w w' := by
  obtain ⟨x0, x1, x2, x3, e, a0, a1, a2, a3, ev⟩ := words_of_num x hx
  rw [e]
  refine (negated_any x0 x1 x2 x3 a0 a1 a2 a3 w).mono ?_
  rintro e w' ⟨⟨z0, z1, z2, z3, rfl, k0, k1, k2, k3, ke⟩, hg⟩
  obtain ⟨z, hz, ez, vz⟩ := num_of_words k0 k1 k2 k3
  refine ⟨⟨z, by rw [ez], hz, sb_uniq (Nat.mod_lt _ p_pos) ?_⟩, hg⟩
  rw [Nat.mod_add_mod]
  apply modN
  have : (V 0 0 0 0 : Int) = ((0 : Nat) : Int) := by decide
  rw [← vz, ev, this] at ke
  simpa using ke

theorem squared_num (x : Nat) (n : Nat) (hx : x < M) (hn : n ≤ 1000) (w : World) :
    Calls Tryd.prog 26 #[numV x, .int .i64 n] w fun e w' => (∃ z, e = .returned (numV z) ∧ z < M ∧ z % p = x ^ (2 ^ n) % p) ∧ Grown w w' := by
  obtain ⟨x0, x1, x2, x3, e, a0, a1, a2, a3, ev⟩ := words_of_num x hx
  rw [e]
  refine (squared_any x0 x1 x2 x3 n a0 a1 a2 a3 (by omega) (by omega) w).mono ?_
  rintro e w' ⟨⟨z0, z1, z2, z3, rfl, k0, k1, k2, k3, ke⟩, hg⟩
  obtain ⟨z, hz, ez, vz⟩ := num_of_words k0 k1 k2 k3
  refine ⟨⟨z, by rw [ez], hz, modN ?_⟩, hg⟩
  rw [vz, ke, ev]; simp

theorem canonical_num (x : Nat) (hx : x < M) (w : World) :
    Calls Tryd.prog 29 #[numV x] w fun e w' => e = .returned (numV (x % p)) ∧ Grown w w' := by
  obtain ⟨x0, x1, x2, x3, e, a0, a1, a2, a3, ev⟩ := words_of_num x hx
  rw [e]
  refine (canonical_any x0 x1 x2 x3 a0 a1 a2 a3 w).mono ?_
  rintro e w' ⟨⟨z0, z1, z2, z3, rfl, k0, k1, k2, k3, ke⟩, hg⟩
  obtain ⟨z, hz, ez, vz⟩ := num_of_words k0 k1 k2 k3
  have : z = x % p := by
    have hp : pI = ((p : Nat) : Int) := rfl
    rw [ev, ← vz, hp] at ke
    omega
  refine ⟨?_, hg⟩
  rw [← this, ← ez]

theorem bytes_num (x : Nat) (hx : x < M) (w : World) :
    Calls Tryd.prog 24 #[numV x] w fun e w' => e = .returned (bv (x % p)) ∧ Grown w w' := by
  obtain ⟨x0, x1, x2, x3, e, a0, a1, a2, a3, ev⟩ := words_of_num x hx
  rw [e]
  refine (bytes_any x0 x1 x2 x3 a0 a1 a2 a3 w).mono ?_
  rintro e w' ⟨⟨z, ke, rfl⟩, hg⟩
  have : z = x % p := by
    have hp : pI = ((p : Nat) : Int) := rfl
    rw [ev, hp] at ke
    omega
  rw [this]
  exact ⟨rfl, hg⟩
end Go.Proofs.YtfnbodpbdfeiiaaDoor
