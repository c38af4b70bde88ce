import Derived.Test.YtngoedhddjakhaaJo
namespace Go.Proofs.Ytngoedhddjakhaa
open Go.RowKit Go.Shelf TextNum TileNum
set_option maxRecDepth 100000 in
theorem first_short (a : Option Addr) (n c : Nat) (w : World) (hn : n < 2) : Calls Try.prog 36 #[.slice a n c] w fun e w' => e = .returned (.tuple #[.slice none 0 0, .slice none 0 0, .bool false]) ∧ Up w w' := by
  have d1 : (n : Int) < 2 := by omega
  go_enter Try.func36, Try.ntmps36
  go_wp2
  go_ret3
  exact ⟨rfl, Up.refl _⟩
set_option maxRecDepth 100000 in
set_option maxHeartbeats 1000000 in
theorem first_bad (b off n c m : Nat) (x y : UInt8) (w : World) (hn : n + 2 ≤ c) (hc : n + 2 ≤ 9223372036854775807) (h0 : w.cell? ⟨b, off, none⟩ = some (vb x)) (h1 : w.cell? ⟨b, off + 1, none⟩ = some (vb y)) (hm : x.toNat * 256 + y.toNat = m) (hm1 : 1024 < m ∨ n < m) :
    Calls Try.prog 36 #[.slice (some ⟨b, off, none⟩) (n + 2) c] w fun e w' => e = .returned (.tuple #[.slice none 0 0, .slice none 0 0, .bool false]) ∧ Up w w' := by
  have hmz : (x.toNat : Int) * 256 + (y.toNat : Int) = (m : Int) := by omega
  have d3 : ¬ ((n : Int) + 2 < 2) := by omega
  have hx : (x.toNat : Int) < 256 := by have := x.toNat_lt; omega
  have hy : (y.toNat : Int) < 256 := by have := y.toNat_lt; omega
  have hm9 : (m : Int) < 65536 := by omega
  go_enter Try.func36, Try.ntmps36
  go_wp2
  go_quiet (fail)
  clear hmz
  have hcap : c = 2 ∨ 2 < c := by omega
  by_cases d1 : 1024 < m
  · have d1z : (1024 : Int) < (m : Int) := by omega
    clear hm1
    rcases hcap with hcap | hcap
    · subst hcap
      have hn0 : n = 0 := by omega
      subst hn0
      go_wp2
      go_ret3
      exact ⟨rfl, (Up.refl _).drewN _⟩
    · obtain ⟨k, rfl⟩ : ∃ k, c = k + 2 := ⟨c - 2, by omega⟩
      have hk0 : 0 < k := by omega
      go_wp2
      go_ret3
      exact ⟨rfl, (Up.refl _).drewN _⟩
  · have d1z : ¬ (1024 : Int) < (m : Int) := by omega
    have d2z : (n : Int) < (m : Int) := by omega
    have d2n : n < m := by omega
    clear hm1
    rcases hcap with hcap | hcap
    · subst hcap
      have hn0 : n = 0 := by omega
      subst hn0
      have hm0 : 0 < (m : Int) := by omega
      go_wp2
      go_ret3
      exact ⟨rfl, (Up.refl _).drewN _⟩
    · obtain ⟨k, rfl⟩ : ∃ k, c = k + 2 := ⟨c - 2, by omega⟩
      have hk0 : 0 < k := by omega
      go_wp2
      go_ret3
      exact ⟨rfl, (Up.refl _).drewN _⟩
set_option maxRecDepth 100000 in
set_option maxHeartbeats 1000000 in
theorem first_good (b off n c m : Nat) (x y : UInt8) (w : World) (hn : n + 2 ≤ c) (hc : n + 2 ≤ 9223372036854775807) (h0 : w.cell? ⟨b, off, none⟩ = some (vb x)) (h1 : w.cell? ⟨b, off + 1, none⟩ = some (vb y)) (hm : x.toNat * 256 + y.toNat = m) (hm1 : m ≤ 1024) (hm2 : m ≤ n) :
    Calls Try.prog 36 #[.slice (some ⟨b, off, none⟩) (n + 2) c] w fun e w' => Up w w' ∧ ∃ ad ad2 k, e = .returned (.tuple #[.slice (some ad) m k, .slice (some ad2) (n - m) (k - m), .bool true]) ∧ n ≤ k ∧ (0 < n → ad = ⟨b, off + 2, none⟩) ∧ (m < n → ad2 = ⟨b, off + 2 + m, none⟩) := by
  have hmz : (x.toNat : Int) * 256 + (y.toNat : Int) = (m : Int) := by omega
  have d1 : ¬ (1024 : Int) < (m : Int) := by omega
  have d2 : ¬ (n : Int) < (m : Int) := by omega
  have d3 : ¬ ((n : Int) + 2 < 2) := by omega
  go_enter Try.func36, Try.ntmps36
  go_wp2
  go_quiet (fail)
  clear hmz
  have hcap : c = 2 ∨ 2 < c := by omega
  rcases hcap with hcap | hcap
  · subst hcap
    have hn0 : n = 0 := by omega
    have hm0 : m = 0 := by omega
    subst hn0 hm0
    go_wp2_with fail
    all_goals
      go_quiet (fail)
      go_wp2
      go_ret3
      refine ⟨((Up.refl _).drewN _).drewN _, _, _, 0, rfl, Nat.le_refl _, fun h => by omega, fun h => by omega⟩
  · obtain ⟨k, rfl⟩ : ∃ k, c = k + 2 := ⟨c - 2, by omega⟩
    have hk0 : 0 < k := by omega
    by_cases hkm : k = m
    · subst hkm
      go_wp2_with fail
      all_goals
        go_quiet (fail)
        go_wp2
        go_ret3
        refine ⟨((Up.refl _).drewN _).drewN _, _, _, k, by rw [Nat.sub_self]; rfl, by omega, fun _ => rfl, fun h => by omega⟩
    · go_wp2_with fail
      all_goals
        go_quiet (fail)
        go_wp2
        go_ret3
        refine ⟨((Up.refl _).drewN _).drewN _, _, _, k, rfl, by omega, fun _ => rfl, fun h => rfl⟩
/-- what firstRecord answers -/
def FR (a : Option Addr) (c : Nat) (d : List UInt8) (w : World) (e : Ending) (w' : World) : Prop :=
  Up w w' ∧ match fst d with
    | none => e = .returned (.tuple #[.slice none 0 0, .slice none 0 0, .bool false])
    | some (r, t) => ∃ ad k a2 k2, e = .returned (.tuple #[.slice (some ad) r.length k, .slice a2 t.length k2, .bool true]) ∧ ∀ w0, Sl w0 (.slice a d.length c) d → Sl w0 (.slice (some ad) r.length k) r ∧ Sl w0 (.slice a2 t.length k2) t
theorem first_walk (a : Option Addr) (c : Nat) (d : List UInt8) (w : World) (h : Sl w (.slice a d.length c) d) (hd : d.length ≤ 9223372036854775807) : Calls Try.prog 36 #[.slice a d.length c] w (FR a c d w) := by
  rcases d with _ | ⟨x, _ | ⟨y, t⟩⟩
  · exact (first_short a _ c w (by simp)).mono fun e w' h => ⟨h.2, h.1⟩
  · exact (first_short a _ c w (by simp)).mono fun e w' h => ⟨h.2, h.1⟩
  · obtain ⟨a', c', e, hc, h⟩ := h
    injection e with e1 e2 e3
    subst e1 e3
    rcases h with h | ⟨b, off, rfl, hb, hcell⟩
    · cases h
    have h0 := hcell 0 (by simp)
    have h1 := hcell 1 (by simp)
    simp only [Nat.add_zero, List.getElem_cons_zero, List.getElem_cons_succ] at h0 h1
    simp only [List.length_cons] at hc hd ⊢
    by_cases hm : 1024 < x.toNat * 256 + y.toNat ∨ t.length < x.toNat * 256 + y.toNat
    · refine (first_bad b off t.length c _ x y w (by omega) (by omega) h0 h1 rfl hm).mono fun e w' h => ⟨h.2, ?_⟩
      simp only [fst, if_pos hm]
      exact h.1
    · rw [not_or, Nat.not_lt, Nat.not_lt] at hm
      obtain ⟨hm1, hm2⟩ := hm
      refine (first_good b off t.length c _ x y w (by omega) (by omega) h0 h1 rfl hm1 hm2).mono fun e w' ⟨u, ad, ad2, k, he, hk, g1, g2⟩ => ⟨u, ?_⟩
      simp only [fst, if_neg (show ¬ (1024 < x.toNat * 256 + y.toNat ∨ t.length < x.toNat * 256 + y.toNat) by omega)]
      generalize x.toNat * 256 + y.toNat = m at *
      have hl : (t.take m).length = m := by rw [List.length_take]; omega
      refine ⟨ad, k, some ad2, k - m, by rw [hl, List.length_drop]; exact he, fun w0 hw0 => ?_⟩
      obtain ⟨a', c', e, hc, hw0⟩ := hw0
      injection e with e1 e2 e3
      subst e1 e3
      rcases hw0 with hw0 | ⟨b', off', e4, hb, hcell⟩
      · cases hw0
      injection e4 with e4
      injection e4 with e5 e6 _
      subst e5 e6
      refine ⟨⟨_, k, rfl, by omega, ?_⟩, ⟨_, _, rfl, by rw [List.length_drop]; omega, ?_⟩⟩
      · rcases Nat.eq_zero_or_pos m with hz | hz
        · left; rw [hz]; rfl
        · right
          refine ⟨b, off + 2, by rw [g1 (by omega)], hb, fun i hi => ?_⟩
          rw [hl] at hi
          have := hcell (i + 2) (by simp only [List.length_cons]; omega)
          rw [show off + 2 + i = off + (i + 2) by omega, this]
          simp only [List.getElem_cons_succ, List.getElem_take]
      · rcases Nat.lt_or_ge m t.length with hz | hz
        · right
          refine ⟨b, off + 2 + m, by rw [g2 hz], hb, fun i hi => ?_⟩
          rw [List.length_drop] at hi
          have := hcell (m + i + 2) (by simp only [List.length_cons]; omega)
          rw [show off + 2 + m + i = off + (m + i + 2) by omega, this]
          simp only [List.getElem_cons_succ, List.getElem_drop]
        · left
          exact List.drop_eq_nil_of_le hz
end Go.Proofs.Ytngoedhddjakhaa
