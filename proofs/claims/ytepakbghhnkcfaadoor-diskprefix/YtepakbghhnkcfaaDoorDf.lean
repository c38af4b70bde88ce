import Derived.Test.YtepakbghhnkcfaaDoorDe
namespace Go.Proofs.YtepakbghhnkcfaaDoor
open Go.RowKit Go.Shelf TextNum ModNum
/-- how far a write reaches beyond the end -/
def gro (n : Nat) (p : Int) (m : Nat) : Int := if m = 0 ∨ p + m ≤ n then 0 else p + m - n
set_option maxRecDepth 100000 in
set_option maxHeartbeats 1000000 in
theorem growth_walk (F n m : Nat) (p : Int) (an am : Option Addr) (cn cm : Nat) (x1 x2 : Value) (w : World) (hA : At w F 69 [.slice an n cn, x1, x2]) (h0 : 0 ≤ p) (h1 : p ≤ 1048576) (hm : m ≤ 140737488355328) (hn : n ≤ 35184372088832) :
    Calls Tryd.prog 55 #[.pointer (some ⟨F, 0, none⟩), .int .i64 p, .slice am m cm] w fun e w' => e = .returned (.int .i64 (gro n p m)) ∧ w' = w := by
  have hc := hA.cell (i := 0) rfl
  clear hA
  by_cases hm0 : m = 0
  · subst hm0
    have HR := Hid.of (show gro n p 0 = 0 from if_pos (.inl rfl))
    go_enter Tryd.func55, Tryd.ntmps55
    go_wp2
    go_ret
    rw [HR.out]
    exact ⟨rfl, rfl⟩
  · have hmz : ((m : Int) == 0) = false := by rw [beq_eq_false_iff_ne]; omega
    by_cases hle : p + m ≤ n
    · have HR := Hid.of (show gro n p m = 0 from if_pos (.inr hle))
      go_enter Tryd.func55, Tryd.ntmps55
      go_wp2
      go_ret
      rw [HR.out]
      exact ⟨rfl, rfl⟩
    · have HR := Hid.of (show gro n p m = p + m - n from if_neg (fun h => by rcases h with h | h; exact hm0 h; exact hle h))
      go_enter Tryd.func55, Tryd.ntmps55
      go_wp2
      go_ret
      rw [HR.out]
      exact ⟨rfl, rfl⟩
/-- what a write's own error is -/
def wrE (room n : Nat) (p : Int) (m : Nat) : Int := if p < 0 ∨ 1048576 < p then 1 else if 0 < gro n p m ∧ (room : Int) < n + gro n p m then 123 else 0
set_option maxRecDepth 100000 in
set_option maxHeartbeats 1000000 in
theorem writeError_walk (D F n m room : Nat) (p : Int) (an am : Option Addr) (cn cm : Nat) (x1 x2 y2 y3 y4 y5 y6 y7 y8 y9 y10 y11 : Value) (w : World) (hD : At w D 82 [.int .i64 (room : Int), .int .i64 (n : Int), y2, y3, y4, y5, y6, y7, y8, y9, y10, y11]) (hA : At w F 69 [.slice an n cn, x1, x2])
    (hm : m ≤ 140737488355328) (hn : n ≤ 35184372088832) (hr : room ≤ 35184372088832) :
    Calls Tryd.prog 34 #[.pointer (some ⟨D, 0, none⟩), .pointer (some ⟨F, 0, none⟩), .int .i64 p, .slice am m cm] w fun e w' => e = .returned (.int .i64 (wrE room n p m)) ∧ Up w w' := by
  by_cases hp0 : p < 0
  · have HR := Hid.of (show wrE room n p m = 1 from if_pos (.inl hp0))
    go_enter Tryd.func34, Tryd.ntmps34
    go_wp2
    go_ret
    rw [HR.out]
    exact ⟨rfl, Up.refl _⟩
  by_cases hp1 : 1048576 < p
  · have HR := Hid.of (show wrE room n p m = 1 from if_pos (.inr hp1))
    go_enter Tryd.func34, Tryd.ntmps34
    go_wp2
    go_ret
    rw [HR.out]
    exact ⟨rfl, Up.refl _⟩
  have HC := Hid.of (growth_walk F n m p an am cn cm x1 x2 w hA (by omega) (by omega) hm hn)
  have hc0 := hD.cell (i := 0) rfl
  have hc1 := hD.cell (i := 1) rfl
  have HE := Hid.of (show wrE room n p m = if 0 < gro n p m ∧ (room : Int) < n + gro n p m then 123 else 0 from if_neg (fun h => by rcases h with h | h <;> omega))
  have hg0 : 0 ≤ gro n p m := by
    unfold gro
    by_cases h : m = 0 ∨ p + m ≤ n
    · rw [if_pos h]; omega
    · rw [if_neg h]; omega
  have hg1 : gro n p m ≤ 140737488355328 + 1048576 := by
    unfold gro
    by_cases h : m = 0 ∨ p + m ≤ n
    · rw [if_pos h]; omega
    · rw [if_neg h]; omega
  generalize gro n p m = g at *
  clear hA hD
  by_cases hz : 0 < g
  · by_cases hf : (room : Int) < n + g
    · have HR := Hid.of (HE.out.trans (if_pos ⟨hz, hf⟩))
      clear HE
      go_enter Tryd.func34, Tryd.ntmps34
      go_wp2_with fail
      refine HC.out.mono ?_
      rintro e w1 ⟨rfl, rfl⟩
      dsimp only
      go_wp2
      go_region
      go_wp2
      go_ret
      rw [HR.out]
      exact ⟨rfl, (Up.refl _).drew⟩
    · have HR := Hid.of (HE.out.trans (if_neg (fun h => hf h.2)))
      clear HE
      go_enter Tryd.func34, Tryd.ntmps34
      go_wp2_with fail
      refine HC.out.mono ?_
      rintro e w1 ⟨rfl, rfl⟩
      dsimp only
      go_wp2
      go_region
      go_wp2
      go_ret
      rw [HR.out]
      exact ⟨rfl, (Up.refl _).drew⟩
  · have HR := Hid.of (HE.out.trans (if_neg (fun h => hz h.1)))
    obtain rfl : g = 0 := by omega
    clear HE hz hg0 hg1
    go_enter Tryd.func34, Tryd.ntmps34
    go_wp2_with fail
    refine HC.out.mono ?_
    rintro e w1 ⟨rfl, rfl⟩
    dsimp only
    go_wp2
    go_region
    go_wp2
    go_ret
    rw [HR.out]
    exact ⟨rfl, (Up.refl _).drew⟩
end Go.Proofs.YtepakbghhnkcfaaDoor
