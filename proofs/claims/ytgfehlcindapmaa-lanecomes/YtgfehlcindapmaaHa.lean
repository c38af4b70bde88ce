import Derived.Test.YtgfehlcindapmaaGe
namespace Go.Proofs.Ytgfehlcindapmaa
open Go.RowKit Go.Conc TextNum
/-- a message that must come -/
structure Co where
  t : Nat
  x : Nat
  m : Nat
  a : Option Addr
  c : Nat
  d : List UInt8
def coc (q : Co) : List Value := [.int .i64 (q.t : Int), .int .i64 (q.x : Int), .int .i64 (q.m : Int), .slice q.a q.d.length q.c]
def ahd (p q : Co) : Bool := if p.t = q.t then (if p.x = q.x then decide (p.m < q.m) else decide (p.x < q.x)) else decide (p.t < q.t)
set_option maxRecDepth 100000 in
theorem ahead_walk (w : World) (p q : Co) : Calls Try.prog 57 #[.agg (coc p).toArray, .agg (coc q).toArray] w fun e w' => e = .returned (.bool (ahd p q)) ∧ Up w w' := by
  obtain ⟨pt, px, pm, pa, pc, pd⟩ := p
  obtain ⟨qt, qx, qm, qa, qc, qd⟩ := q
  have HU := Hid.of (((Up.refl w).alloc (.cells #[.int .i64 (pt : Int), .int .i64 (px : Int), .int .i64 (pm : Int), .slice pa pd.length pc] 103)).alloc (.cells #[.int .i64 (qt : Int), .int .i64 (qx : Int), .int .i64 (qm : Int), .slice qa qd.length qc] 103))
  have hsz : (w.alloc (.cells #[.int .i64 (pt : Int), .int .i64 (px : Int), .int .i64 (pm : Int), .slice pa pd.length pc] 103)).heap.size = w.heap.size + 1 := by show (w.heap.push _).size = _; rw [Array.size_push]
  have hA := (at_new w 103 [.int .i64 (pt : Int), .int .i64 (px : Int), .int .i64 (pm : Int), .slice pa pd.length pc]).up ((Up.refl _).alloc (.cells #[.int .i64 (qt : Int), .int .i64 (qx : Int), .int .i64 (qm : Int), .slice qa qd.length qc] 103))
  have hB := at_new (w.alloc (.cells #[.int .i64 (pt : Int), .int .i64 (px : Int), .int .i64 (pm : Int), .slice pa pd.length pc] 103)) 103 [.int .i64 (qt : Int), .int .i64 (qx : Int), .int .i64 (qm : Int), .slice qa qd.length qc]
  rw [hsz] at hB
  have a0 := hA.cell (i := 0) rfl
  have a1 := hA.cell (i := 1) rfl
  have a2 := hA.cell (i := 2) rfl
  have b0 := hB.cell (i := 0) rfl
  have b1 := hB.cell (i := 1) rfl
  have b2 := hB.cell (i := 2) rfl
  clear hA hB
  show Calls Try.prog 57 #[.agg #[.int .i64 (pt : Int), .int .i64 (px : Int), .int .i64 (pm : Int), .slice pa pd.length pc], .agg #[.int .i64 (qt : Int), .int .i64 (qx : Int), .int .i64 (qm : Int), .slice qa qd.length qc]] w _
  by_cases ht : pt = qt
  · subst ht
    by_cases hx : px = qx
    · subst hx
      have e : ahd ⟨pt, px, pm, pa, pc, pd⟩ ⟨pt, px, qm, qa, qc, qd⟩ = decide (pm < qm) := by simp [ahd]
      rw [e]
      clear e
      go_enter Try.func57, Try.ntmps57
      go_wp2
      go_ret
      exact ⟨rfl, HU.out⟩
    · have hxz : ¬ (px : Int) = (qx : Int) := by omega
      have e : ahd ⟨pt, px, pm, pa, pc, pd⟩ ⟨pt, qx, qm, qa, qc, qd⟩ = decide (px < qx) := by simp [ahd, hx]
      rw [e]
      clear e
      go_enter Try.func57, Try.ntmps57
      go_wp2
      go_ret
      exact ⟨rfl, HU.out⟩
  · have htz : ¬ (pt : Int) = (qt : Int) := by omega
    have e : ahd ⟨pt, px, pm, pa, pc, pd⟩ ⟨qt, qx, qm, qa, qc, qd⟩ = decide (pt < qt) := by simp [ahd, ht]
    rw [e]
    clear e
    go_enter Try.func57, Try.ntmps57
    go_wp2
    go_ret
    exact ⟨rfl, HU.out⟩
/-- c joins the list at its place -/
def putL : List Co → Co → List Co
  | [], c => [c]
  | x :: r, c => if ahd c x then c :: x :: r else x :: putL r c
/-- in order of the ticks -/
def Ord : List Co → Prop
  | [] => True
  | x :: r => (∀ y ∈ r, x.t ≤ y.t) ∧ Ord r
theorem putL_eq : ∀ (D : List Co) (c : Co), Ord D → (∀ x ∈ D, x.t = c.t → ahd c x = false) → putL D c = D.filter (fun x => decide (x.t ≤ c.t)) ++ c :: D.filter (fun x => decide (c.t < x.t))
  | [], c, _, _ => rfl
  | x :: r, c, ho, hc => by
    unfold putL
    by_cases ha : ahd c x = true
    · rw [if_pos ha]
      have h1 : c.t < x.t := by
        by_cases e : c.t = x.t
        · have := hc x (by simp) e.symm
          rw [this] at ha; cases ha
        · simpa [ahd, e] using ha
      have hall : ∀ y ∈ x :: r, c.t < y.t := fun y hy => by
        rcases List.mem_cons.1 hy with rfl | hy
        · exact h1
        · have := ho.1 y hy
          omega
      rw [List.filter_eq_nil_iff.2 (fun y hy => by have := hall y hy; simp; omega), List.filter_eq_self.2 (fun y hy => by have := hall y hy; simpa using this), List.nil_append]
    · rw [if_neg ha, putL_eq r c ho.2 (fun y hy => hc y (by simp [hy]))]
      have h1 : x.t ≤ c.t := by
        by_cases e : c.t = x.t
        · omega
        · have : ¬ c.t < x.t := by simpa [ahd, e] using ha
          omega
      rw [List.filter_cons_of_pos (by simpa using h1), List.filter_cons_of_neg (by simp; omega), List.cons_append]
end Go.Proofs.Ytgfehlcindapmaa
