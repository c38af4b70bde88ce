import Derived.Test.YteijccjdejjbjaaDoorEng
namespace Go.Proofs.YteijccjdejjbjaaDoor
open Go.RowKit Go.Shelf ScalarNum

theorem less_step {x y i : Nat} (h : x / 256 ^ (i + 1) = y / 256 ^ (i + 1)) : (x / 256 ^ i % 256 = y / 256 ^ i % 256 → x / 256 ^ i = y / 256 ^ i) ∧ (x / 256 ^ i % 256 ≠ y / 256 ^ i % 256 → (x / 256 ^ i % 256 < y / 256 ^ i % 256 ↔ x < y)) := by
  have e : ∀ z, z / 256 ^ (i + 1) = z / 256 ^ i / 256 := fun z => by rw [Nat.pow_succ, Nat.div_div_eq_div_mul]
  rw [e, e] at h
  refine ⟨fun h1 => by omega, fun h1 => ?_⟩
  have hp : 0 < 256 ^ i := Nat.pow_pos (by decide)
  have hlt : x / 256 ^ i % 256 < y / 256 ^ i % 256 ↔ x / 256 ^ i < y / 256 ^ i := by omega
  rw [hlt]
  have hne : x / 256 ^ i ≠ y / 256 ^ i := by omega
  constructor
  · intro h2
    apply Nat.lt_of_not_le
    intro h3
    have := Nat.div_le_div_right (c := 256 ^ i) h3
    omega
  · intro h2
    have := Nat.div_le_div_right (c := 256 ^ i) (Nat.le_of_lt h2)
    omega

set_option maxHeartbeats 1000000 in
theorem less_any (x y : Nat) (hx : x < M) (hy : y < M) (w : World) :
    Calls Tryd.prog 27 #[yv 32 x, yv 32 y] w fun e w' => e = .returned (.bool (decide (x < y))) ∧ Grown w w' := by
  obtain ⟨hE, hW⟩ := params2 w x y
  rw [yv, yv]
  have hcx := fun i (hi : i < 32) => hE _ (.head _) i _ (yl_get 32 x i hi)
  have hcy := fun i (hi : i < 32) => hE _ (.tail _ (.head _)) i _ (yl_get 32 y i hi)
  simp only [Nat.zero_add] at hcx hcy
  go_enter Tryd.func27, Tryd.ntmps27
  go_wp2
  generalize ((w.alloc (Obj.cells (yl 32 x).toArray 23)).alloc (Obj.cells (yl 32 y).toArray 23)) = W0 at *
  clear hE
  go_loopw [5] (fun v5 wr => ∃ k n : Nat, v5 = .int .i64 ((k : Int) - 1) ∧ k ≤ 32 ∧ wr = W0.drewN n ∧ x / 256 ^ k = y / 256 ^ k) (fun v5 _ => (intOf v5 + 1).toNat)
  case atStart =>
    refine ⟨32, 0, rfl, by decide, rfl, ?_⟩
    have e : 256 ^ 32 = M := by decide
    rw [e, Nat.div_eq_of_lt hx, Nat.div_eq_of_lt hy]
  case round =>
    obtain ⟨k, n, rfl, hk, rfl, hdiv⟩ := hrel
    rcases Nat.eq_zero_or_pos k with rfl | hpos
    · have hxy : x = y := by simpa using hdiv
      subst hxy
      clear hcx hcy hdiv
      go_wp2
      go_ret
      exact ⟨by simp, grown_drewN hW _⟩
    · obtain ⟨i, rfl⟩ : ∃ i, k = i + 1 := ⟨k - 1, by omega⟩
      obtain ⟨s1, s2⟩ := less_step hdiv
      have cx := hcx i (by omega)
      have cy := hcy i (by omega)
      simp only [dg] at cx cy
      clear hcx hcy hdiv
      have ei : ((i + 1 : Nat) : Int) - 1 = (i : Int) := by omega
      rw [ei]
      clear ei
      have b0 : (0 : Int) ≤ (i : Int) := by omega
      have b1 : (i : Int) < 32 := by omega
      have wi : IntKind.i64.wrap ((i : Int) - 1) = (i : Int) - 1 := by rw [IntKind.wrap_i64]; omega
      generalize hbx : x / 256 ^ i % 256 = bx at *
      generalize hby : y / 256 ^ i % 256 = by' at *

      by_cases hb : bx = by'
      · have s1' := s1 hb
        subst hb
        clear s1 s2 hbx hby
        have sd : Hid (x / 256 ^ i = y / 256 ^ i) := s1'
        clear s1'
        go_wp2
        go_quiet (fail)
        go_wp2
        go_roundw
        case rel => exact ⟨i, _, rfl, by omega, rfl, sd.out⟩
        case measure => simp [intOf]
      · have s2' := s2 hb
        have hbi : ¬ ((bx : Int) = (by' : Int)) := by omega
        clear s1 s2 hbx hby
        have sd : Hid (bx < by' ↔ x < y) := s2'
        clear s2'
        go_wp2
        go_quiet (fail)
        go_wp2
        go_quiet (fail)
        go_wp2
        go_ret
        refine ⟨?_, hW⟩
        have h : bx < by' ↔ x < y := sd.out
        show Ending.returned (.bool (decide (bx < by'))) = _
        rw [decide_eq_decide.2 h]
end Go.Proofs.YteijccjdejjbjaaDoor
