import Derived.Test.YtaibjeehjhlicaaGreatDoorQbm
import Derived.Test.YtaibjeehjhlicaaGreatDoorQaj
namespace Go.Proofs.YtaibjeehjhlicaaGreatDoor
open Go.RowKit Go.Shelf TextNum ModNum
/-- a names' act that can be done again on these names -/
def nfit (c : NA) (m : NM) : Prop := c.kd = 0 ∨ c.kd = 1 ∨ (c.kd = 2 ∧ (m c.s.data.toList).isSome = true)
/-- the names behind some names' acts -/
def nrun (cs : List NA) (m : NM) : NM := cs.foldl (fun m c => nac c m) m
theorem nrun_snoc (cs : List NA) (c : NA) (m : NM) : nrun (cs ++ [c]) m = nac c (nrun cs m) := by
  unfold nrun
  rw [List.foldl_append]
  rfl
def NFit (cs : List NA) (m : NM) : Prop := ∀ (j : Nat) (hj : j < cs.length), nfit cs[j] (nrun (cs.take j) m)
theorem NFit.nil (m : NM) : NFit [] m := fun j hj => absurd hj (Nat.not_lt_zero j)
theorem NFit.snoc {cs : List NA} {c : NA} {m : NM} (h : NFit cs m) (hc : nfit c (nrun cs m)) : NFit (cs ++ [c]) m := fun j hj => by
  rcases Nat.lt_or_ge j cs.length with h1 | h1
  · rw [List.getElem_append_left h1, List.take_append_of_le_length (Nat.le_of_lt h1)]
    exact h j h1
  · have h2 : j = cs.length := by rw [List.length_append, List.length_singleton] at hj; omega
    subst h2
    rw [List.getElem_append_right (Nat.le_refl _), List.take_left]
    simpa using hc
/-- a names' act is done on a map of names -/
theorem again_gen {w : World} {c : NA} {L n : Nat} {dm : DataW Unit} {m : NM} (hc : NAOk w c) (hf : nfit c m) (hM : OM w L n dm) (hI : MIs dm m) (hn : n < maxLen) :
    ∃ f caps, nav c = .func (.func f) #[] caps ∧ ((f = 55 ∧ caps = #[pv c.b1, pv c.b2]) ∨ (f = 100 ∧ caps = #[pv c.b2]) ∨ (f = 60 ∧ caps = #[pv c.b1, pv c.b2])) ∧ Calls Tryz.prog f (#[.map (some L)] ++ caps) w fun e w' => e = .returned (.tuple #[]) ∧ ∃ n' dm', n' ≤ n + 1 ∧ OM w' L n' dm' ∧ MIs dm' (nac c m) ∧ w.grownBy w' (some L) := by
  have hmp := World.ownsMap.isMap hM
  rcases hf with hk | hk | ⟨hk, hs⟩
  · have h1 := hc.b1 (by omega)
    have h2 := hc.b2
    rw [if_pos hk, if_pos hk] at h1
    rw [if_neg (by omega)] at h2
    refine ⟨55, #[pv c.b1, pv c.b2], by unfold nav; rw [if_pos hk], .inl ⟨rfl, rfl⟩, (Create11_gen L c.f c.b1 c.b2 n c.s dm w hc.sl hn hM h1 h2).mono ?_⟩
    rintro e w' ⟨rfl, o, g⟩
    refine ⟨rfl, n + 1, _, Nat.le_refl _, o, ?_, g⟩
    unfold nac
    rw [if_pos hk]
    exact hI.put hmp _ _
  · have h2 := hc.b2
    rw [if_neg (by omega)] at h2
    refine ⟨100, #[pv c.b2], by unfold nav; rw [if_neg (by omega), if_pos hk], .inr (.inl ⟨rfl, rfl⟩), (Remove11_gen L c.b2 n c.s dm w hc.sl hM h2).mono ?_⟩
    rintro e w' ⟨rfl, o, g⟩
    refine ⟨rfl, n, _, Nat.le_succ _, o, ?_, g⟩
    unfold nac
    rw [if_neg (by omega), if_pos hk]
    exact hI.del _
  · have h1 := hc.b1 (by omega)
    have h2 := hc.b2
    rw [if_neg (by omega), if_neg (by omega)] at h1
    rw [if_pos hk] at h2
    obtain ⟨b, hb⟩ := Option.isSome_iff_exists.1 hs
    refine ⟨60, #[pv c.b1, pv c.b2], by unfold nav; rw [if_neg (by omega), if_neg (by omega)], .inr (.inr ⟨rfl, rfl⟩), (Rename11_gen L b c.b1 c.b2 n c.s c.t dm w hc.sl hc.tl hn hM ((hI _).2 b hb) h1 h2).mono ?_⟩
    rintro e w' ⟨rfl, o, g⟩
    refine ⟨rfl, n + 1, _, Nat.le_refl _, o, ?_, g⟩
    unfold nac
    rw [if_neg (by omega), if_neg (by omega), hb]
    refine (hI.del _).put ?_ _ _
    obtain ⟨es, he⟩ := hmp
    exact ⟨_, by rw [he]; rfl⟩
/-- the choice's beginning of a list of names' acts -/
theorem exec_cut {o : Oper} {ρ : Operand → Value} {x y : Operand} {w : World} {a : Option Addr} {n c k : Nat} (hk : k ≤ n) (hn : n ≤ c) (ho : o.op = .slice 82 x none (some y) none) (hx : ρ x = .slice a n c) (hy : ρ y = .int .i64 (k : Int)) (ha : a = none → c = 0) : (execOp ρ o).run Tryz.prog w = .ok (.value (.slice a k c)) w := by
  unfold execOp
  simp only [ho, hx]
  have h1 : (k : Int) ≤ (c : Int) := by omega
  cases a with
  | none =>
    obtain rfl := ha rfl
    obtain rfl : k = 0 := by omega
    go_simp
  | some p => go_simp
end Go.Proofs.YtaibjeehjhlicaaGreatDoor
