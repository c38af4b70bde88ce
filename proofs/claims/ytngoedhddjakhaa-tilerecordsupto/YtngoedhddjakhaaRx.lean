import Derived.Test.YtngoedhddjakhaaRw0
namespace Go.Proofs.Ytngoedhddjakhaa
open Go.RowKit Go.Shelf TextNum TileNum
/-- what both Cuts answer -/
def cl (d : List UInt8) (k : Int) : List (List UInt8) := if k < 0 ∨ 256 < k then [] else (ct k.toNat d).getD []
def ce (d : List UInt8) (k : Int) : Int := if k < 0 ∨ 256 < k then 1 else match ct k.toNat d with | none => 102 | some _ => 0
theorem cl_small (d : List UInt8) (k : Int) : (cl d k).length ≤ 256 ∧ ∀ r ∈ cl d k, r.length ≤ 1024 := by
  unfold cl
  by_cases h : k < 0 ∨ 256 < k
  · rw [if_pos h]; simp
  · rw [if_neg h]
    rcases e : ct k.toNat d with _ | rs
    · simp
    · obtain ⟨_, h2, h3⟩ := ct_some _ e
      simp only [Option.getD_some]
      exact ⟨by omega, h3⟩
theorem LT.len {w : World} {B : Nat} {v : Value} {rs : List (List UInt8)} (h : LT w B v rs) : ∃ a c, v = .slice a rs.length c := by
  obtain ⟨a, c, e, _⟩ := h.sl
  exact ⟨a, c, e⟩
theorem CR.any {d : List UInt8} {k : Int} {w : World} {e : Ending} {w' : World} (h : CR d k w e w') : ∃ a c, e = .returned (.tuple #[.slice a (cl d k).length c, .int .i64 (ce d k)]) ∧ LT w' w.heap.size (.slice a (cl d k).length c) (cl d k) ∧ Up w w' := by
  obtain ⟨u, h⟩ := h
  unfold cl ce
  by_cases hg : k < 0 ∨ 256 < k
  · rw [if_pos hg] at h
    simp only [if_pos hg]
    exact ⟨none, 0, h, lT_nil _ _, u⟩
  · rw [if_neg hg] at h
    simp only [if_neg hg]
    rcases e2 : ct k.toNat d with _ | rs
    · rw [e2] at h
      exact ⟨none, 0, h, lT_nil _ _, u⟩
    · rw [e2] at h
      obtain ⟨v, rfl, ho⟩ := h
      obtain ⟨a, c, rfl⟩ := ho.len
      exact ⟨a, c, rfl, ho, u⟩
theorem Sl.by {w w' : World} {v : Value} {l : List UInt8} {row : Option Nat} (h : Sl w v l) (hg : w.grownBy w' row) (hne : ∀ g, v.ownBlock = some g → row ≠ some g) : Sl w' v l := by
  obtain ⟨a, c, rfl, hc0, h⟩ := h
  refine ⟨a, c, rfl, hc0, ?_⟩
  rcases h with h | ⟨b, off, rfl, hb, hc⟩
  · exact .inl h
  · refine .inr ⟨b, off, rfl, Nat.lt_of_lt_of_le hb hg.size, fun i hi => ?_⟩
    rw [← hc i hi]
    simp only [World.cell?]
    rw [hg.block b hb (fun e => hne b rfl e.symm)]
theorem cell_by {w w' : World} {b i : Nat} {u : Value} {row : Option Nat} (h : w.cell? ⟨b, i, none⟩ = some u) (hg : w.grownBy w' row) (hne : row ≠ some b) : w'.cell? ⟨b, i, none⟩ = some u := by
  rw [← h]
  simp only [World.cell?]
  rw [hg.block b (lt_of_cell h) (fun e => hne e.symm)]
theorem Two.by {w w' : World} {b : Nat} {v1 v2 : Value} {x : UInt8} {n1 n2 : Nat} {row : Option Nat} (h : Two w b v1 v2 x n1 n2) (hg : w.grownBy w' row) (h0 : row ≠ some b) (h1 : ∀ g, v1.ownBlock = some g → row ≠ some g) (h2 : ∀ g, v2.ownBlock = some g → row ≠ some g) : Two w' b v1 v2 x n1 n2 :=
  ⟨cell_by h.1 hg h0, cell_by h.2.1 hg h0, h.2.2.1.by hg h1, h.2.2.2.by hg h2⟩
theorem Own.kept {w w' : World} {B : Nat} {v : Value} {l : List UInt8} {row : Option Nat} (h : Own w B v l) (hg : w.grownBy w' row) (hne : ∀ g, v.ownBlock = some g → row ≠ some g) : Own w' B v l := by
  refine World.ownsRow.kept h hg ?_
  rcases hb : v.ownBlock with _ | b
  · exact .inl rfl
  · exact .inr (fun e => hne b hb e.symm)
/-- a byte of one's own list is written -/
theorem Own.store {w : World} {B : Nat} {v : Value} {l : List UInt8} (h : Own w B v l) {j : Nat} (hj : j < l.length) (x : UInt8) : ∃ g c, v = .slice (some ⟨g, 0, none⟩) l.length c ∧ B ≤ g ∧ w.cell? ⟨g, j, none⟩ = some (.int .u8 (l[j].toNat : Int)) ∧ w.frozen? ⟨g, j, none⟩ = false ∧ (∃ cur, w.heap[g]? = some (.cells cur 5)) ∧ Own (w.setCell ⟨g, j, none⟩ (.int .u8 (x.toNat : Int))) B v (l.set j x) := by
  have h0 := h
  rcases h.2 with ⟨rfl, e⟩ | ⟨g, cap, cur, rfl, hbg, hg, hnc, hcm, hcs, htake⟩
  · omega
  · have hc := World.ownsRow.cells h0 (g := g) rfl j _ (cb_get hj)
    rw [add_plain, Nat.zero_add] at hc
    refine ⟨g, cap, rfl, hbg, hc, by simp [World.frozen?, hg], ⟨cur, hg⟩, ?_⟩
    have h1 := heap_setCell_same w g j _ 5 (.int .u8 (x.toNat : Int)) hg
    refine ⟨by simp [cb], .inr ⟨g, cap, _, by rw [List.length_set], hbg, h1, by rw [List.length_set]; exact hnc, hcm, by simpa using hcs, ?_⟩⟩
    rw [Nat.mul_one, List.length_set] at *
    simp only [Array.toList_setIfInBounds, List.take_set, htake]
    simp [cb, List.map_set]
theorem grown_set1 (w : World) (p : Addr) (v : Value) : w.grownBy (w.setCell p v) (some p.block) := grown_set w p v
/-- a byte of one of the lists is written -/
theorem LT.store {w : World} {B : Nat} {v : Value} {ls : List (List UInt8)} (h : LT w B v ls) {i : Nat} (hi : i < ls.length) {j : Nat} (hj : j < ls[i].length) (x : UInt8) : ∃ gl cl' g c, v = .slice (some ⟨gl, 0, none⟩) ls.length cl' ∧ w.cell? ⟨gl, i, none⟩ = some (.slice (some ⟨g, 0, none⟩) ls[i].length c) ∧ B ≤ g ∧ w.cell? ⟨g, j, none⟩ = some (.int .u8 (ls[i][j].toNat : Int)) ∧ w.frozen? ⟨g, j, none⟩ = false ∧ LT (w.setCell ⟨g, j, none⟩ (.int .u8 (x.toNat : Int))) B v (ls.set i (ls[i].set j x)) := by
  obtain ⟨xs, h1, h2, h3, h4⟩ := h
  obtain ⟨u, e, o⟩ := h3 i _ (List.getElem?_eq_getElem hi)
  obtain ⟨g, c, rfl, hB, hc, hf, ⟨cur, hcur⟩, o2⟩ := o.store hj x
  have h1' := h1
  rcases h1.2 with ⟨rfl, e0⟩ | ⟨gl, cap, cur2, rfl, hbg, hgl, hnc, _⟩
  · omega
  · have hne : gl ≠ g := by
      intro e2
      subst e2
      rw [hgl] at hcur
      cases hcur
    have hcl := World.ownsRow.cells h1' (g := gl) rfl i _ e
    rw [add_plain, Nat.zero_add] at hcl
    refine ⟨gl, cap, g, c, by rw [h2], hcl, hB, hc, hf, xs, h1'.kept (grown_set w _ _) (fun g' hg' e' => ?_), by rw [List.length_set]; exact h2, fun t r hr => ?_, h4⟩
    · have e1 : gl = g' := Option.some.inj hg'
      have e2 : g = g' := Option.some.inj e'
      exact hne (e1.trans e2.symm)
    · by_cases hti : t = i
      · subst hti
        rw [List.getElem?_set_self hi] at hr
        cases hr
        exact ⟨_, e, o2⟩
      · rw [List.getElem?_set_ne (fun e => hti e.symm)] at hr
        obtain ⟨u', e', o'⟩ := h3 t r hr
        refine ⟨u', e', o'.kept (grown_set w _ _) (fun g' hg' e2 => ?_)⟩
        have : g = g' := Option.some.inj e2
        subst this
        exact h4 t i u' _ e' e hti g hg' rfl
end Go.Proofs.Ytngoedhddjakhaa
