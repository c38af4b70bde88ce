import Derived.Test.YtnopkpalohehkaaRh
namespace Go.Proofs.Ytnopkpalohehkaa
open Go.RowKit Tlg

set_option maxRecDepth 100000 in
theorem sames_walk (v1 v2 : Value) (l : List Nat) (B1 B2 : Nat) (w : World) (h1 : OwnL w B1 v1 l) (h2 : OwnI w B2 v2 l) (hl : l.length ≤ 49) :
    Calls Try.prog 21 #[v1, v2] w fun e w' => e = .returned (.bool true) ∧ Up w w' := by
  have HC : Hid (∀ i (hi : i < l.length), ∃ g1 c1 g2 c2, v1 = .slice (some ⟨g1, 0, none⟩) l.length c1 ∧ v2 = .slice (some ⟨g2, 0, none⟩) l.length c2 ∧ l.length ≤ c1 ∧ l.length ≤ c2 ∧ w.cell? ⟨g1, i, none⟩ = some (.int .i64 (l[i] : Int)) ∧ w.cell? ⟨g2, i, none⟩ = some (.int .i64 (l[i] : Int))) := by
    intro i hi
    have hne : l ≠ [] := by intro e; rw [e] at hi; simp at hi
    obtain ⟨g1, c1, e1, hc1, _, k1⟩ := h1.cells hne
    obtain ⟨g2, c2, e2, hc2, _, k2⟩ := h2.cells hne
    exact ⟨g1, c1, g2, c2, e1, e2, hc1, hc2, k1 i hi, k2 i hi⟩
  obtain ⟨a1, c1, rfl⟩ := h1.len
  obtain ⟨a2, c2, rfl⟩ := h2.len
  clear h1 h2
  go_enter Try.func21, Try.ntmps21
  go_wp2
  go_loopw [5] (fun v5 wr => ∃ i : Nat, v5 = .int .i64 (i : Int) ∧ i ≤ l.length ∧ Hid (Up w wr)) (fun v5 _ => l.length - (intOf v5).toNat)
  case atStart => exact ⟨0, rfl, by omega, Up.refl _⟩
  case round =>
    obtain ⟨i, rfl, hi, hU⟩ := hrel
    by_cases hlt : i < l.length
    · have hlt' : (i : Int) < (l.length : Int) := by omega
      obtain ⟨g1, d1, g2, d2, e1, e2, f1, f2, k1, k2⟩ := HC.out i hlt
      injection e1 with e1 _ e1'
      injection e2 with e2 _ e2'
      subst e1 e1' e2 e2'
      have q1 := hU.out.cell k1
      have q2 := hU.out.cell k2
      clear k1 k2
      generalize l[i] = x at *
      go_wp2
      go_quiet (fail)
      go_wp2
      go_roundw
      case rel => exact ⟨i + 1, by go_num, by omega, hU.out.drewN _⟩
      case measure => simp [intOf]; omega
    · obtain rfl : i = l.length := by omega
      go_wp2
      go_ret
      exact ⟨rfl, hU.out⟩
end Go.Proofs.Ytnopkpalohehkaa
