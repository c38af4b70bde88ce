import Derived.Test.YteijccjdejjbjaaDoorFr
import Derived.Below
import Derived.Laws.AppendOwn
namespace Go.Proofs.YteijccjdejjbjaaDoor
open Go.RowKit Go.Shelf ScalarNum

theorem frozen_drew (w : World) (a : Addr) : w.drew.frozen? a = w.frozen? a := rfl
theorem frozen_setRow {w : World} {g : Nat} {cur : Array Value} {e : TypeId} (hg : w.heap[g]? = some (.cells cur e (0, 0))) (cs : Array Value) (a : Addr) : (w.setRow g cs).frozen? a = w.frozen? a := by
  by_cases h : a.block = g
  · have e1 : (w.setRow g cs).heap[a.block]? = some (.cells cs e (0, 0)) := by rw [h]; exact setRow_heap w g cur _ e _ hg
    have e2 : w.heap[a.block]? = some (.cells cur e (0, 0)) := by rw [h]; exact hg
    simp [World.frozen?, e1, e2]
  · have e1 : (w.setRow g cs).heap[a.block]? = w.heap[a.block]? := setRow_other w g a.block _ h
    simp [World.frozen?, e1]

/-- one element of one cell and one byte is appended to a slice of one's own: nothing is frozen by it -/
theorem append_one {w : World} {base : Nat} {t e ty : TypeId} {i : TypeInfo} {z : Value} (ht : Tryd.prog.underlying t = some (.slice e)) (hi : Tryd.prog.info? e = some i) (hz : i.zero = some z)
    (hsize : i.size = 1) (hby : i.bytes = 1) (hzs : z.cells.size = 1)
    {v : Value} {n : Nat} {xs : List Value} (hown : w.ownsRow base e 1 v n xs) (ad : Addr) (c : Nat) (u : Value) (hu : w.cell? (ad.add 0) = some u) (h1 : u.oneCell' = true)
    (hn : n < 1099511627776) (hbase : base ≤ w.heap.size) :
    ∃ v' w', (Builtin.append_ #[t, t] ty #[v, .slice (some ad) 1 c]).run Tryd.prog w = .ok v' w' ∧ w'.ownsRow base e 1 v' (n + 1) (xs ++ [u]) ∧ w.grownBy w' v.ownBlock ∧ (∃ g cap, v' = .slice (some ⟨g, 0, none⟩) (n + 1) cap) ∧ ∀ a, w'.frozen? a = w.frozen? a := by
  have hnews : ∀ j x, [u][j]? = some x → w.cell? (ad.add j) = some x := by
    intro j x hx
    match j, hx with
    | 0, hx => simp at hx; subst hx; exact hu
  have hone : ∀ x ∈ [u], x.oneCell' = true := by intro x hx; simp at hx; subst hx; exact h1
  have h63 : n + 1 ≤ maxLen := by unfold maxLen; omega
  obtain ⟨v', w', hr, ho, hg, hiff⟩ := run_append_own (P := Tryd.prog) w base t ty e i z 1 1 ht hi hz hsize hby hzs (by decide) v n xs hown ad 1 c [u] (by simp) hnews hone h63 (by omega) hbase
  refine ⟨v', w', hr, ho, hg, ?_, ?_⟩
  · rcases ho.2 with ⟨_, h⟩ | ⟨g, cap, _, h, _⟩
    · omega
    · exact ⟨g, cap, h⟩
  · rcases hown.2 with ⟨rfl, rfl⟩ | ⟨g, cap, cur, rfl, hbg, hgg, hnc, hcm, hcs, htake⟩
    · have h2 := run_append_nil (P := Tryd.prog) w t ty e i z ht hi hz ad 1 c [u] (by simp [hsize]) hnews (by decide) (by decide) (by rw [hby]; decide)
      rw [h2] at hr
      injection hr with _ hw
      subst hw
      intro a
      rw [frozen?_alloc_cells]; rfl
    · by_cases hroom : n + 1 ≤ cap
      · have h2 := run_append_room (P := Tryd.prog) w t ty e i ht hi g n cap cur hgg ad 1 c [u] (by simp [hsize]) hnews hone hroom (by rw [hsize, hcs]; simp; omega)
        rw [h2] at hr
        injection hr with _ hw
        subst hw
        intro a
        exact frozen_setRow hgg _ a
      · have holds : ∀ j x, xs[j]? = some x → w.cell? ((⟨g, 0, none⟩ : Addr).add j) = some x := hown.cells (g := g) rfl
        have h2 := run_append_grow (P := Tryd.prog) w t ty e i z ht hi hz ⟨g, 0, none⟩ n cap xs (by rw [hsize]; exact hown.1) holds ad 1 c [u] (by simp [hsize]) hnews (by omega) (by omega) (growslice_fits (by omega) (by rw [hby]; omega))
        rw [h2] at hr
        injection hr with _ hw
        subst hw
        intro a
        rw [frozen?_alloc_cells]; rfl

theorem grown_by {w0 w w' : World} {row : Option Nat} (h0 : Grown w0 w) (hg : w.grownBy w' row) (hr : ∀ k, row = some k → w0.heap.size ≤ k) (hf : ∀ a, w'.frozen? a = w.frozen? a) : Grown w0 w' := by
  refine ⟨⟨hg.os.trans h0.1.1, hg.output.trans h0.1.2.1, fun i hi => ?_⟩, fun a => (hf a).trans (h0.2.1 a), Nat.le_trans h0.2.2 hg.size⟩
  rw [hg.block i (Nat.lt_of_lt_of_le hi h0.2.2) (fun e => by have := hr i e.symm; omega)]
  exact h0.1.2.2 i hi

/-- what a slice of one's own holds -/
theorem owns_range {w : World} {base : Nat} {e : TypeId} {n : Nat} {xs : List Value} {g cap : Nat} (h : w.ownsRow base e 1 (.slice (some ⟨g, 0, none⟩) n cap) n xs) : w.rangeAt g 0 xs := by
  intro j u hj
  have := h.cells (g := g) rfl j u hj
  rw [Addr.add_lit] at this
  exact this

/-- the step, with what has grown since W0 -/
theorem wpList_append_one {ops : Array Oper} {rest : List Oper} {o : Oper} {a : Act} {w W0 : World} {Q : Exit → Act → World → Prop} (hgd : o.guard = none) (s x : Operand) {t e : TypeId} {i : TypeInfo} {z : Value}
    (ho : o.op = .call { callee := .builtin .append, args := #[s, x], argTypes := #[t, t] })
    (ht : Tryd.prog.underlying t = some (.slice e)) (hi : Tryd.prog.info? e = some i) (hz : i.zero = some z) (hsize : i.size = 1) (hby : i.bytes = 1) (hzs : z.cells.size = 1)
    (v : Value) (n : Nat) (xs : List Value) (hs : a.eval s = v) (hown : w.ownsRow W0.heap.size e 1 v n xs) (ad : Addr) (c : Nat) (u : Value) (hx : a.eval x = .slice (some ad) 1 c) (hu : w.cell? (ad.add 0) = some u) (h1 : u.oneCell' = true)
    (hn : n < 1099511627776) (hg : Grown W0 w)
    (h : ∀ v' w', w'.ownsRow W0.heap.size e 1 v' (n + 1) (xs ++ [u]) → w.grownBy w' v.ownBlock → (∃ g cap, v' = .slice (some ⟨g, 0, none⟩) (n + 1) cap) → Grown W0 w' → wpList Tryd.prog ops Q rest (a.put o.dst v') w') : wpList Tryd.prog ops Q (o :: rest) a w := by
  refine wpList_plain hgd fun K hK => ?_
  obtain ⟨v', w', hr, h2, h3, h4, h5⟩ := append_one (ty := o.type) ht hi hz hsize hby hzs hown ad c u hu h1 hn hg.2.2
  unfold Oper.wp execOp
  simp only [ho, resolve, invoke, builtin, Sem.run_bind, Sem.run_pure, Result.andThen_ok, List.map_toArray, List.map_cons, List.map_nil, hs, hx, hr]
  exact hK _ _ (h v' w' h2 h3 h4 (grown_by hg h3 (fun k hk => (hown.lt k hk).1) h5))
end Go.Proofs.YteijccjdejjbjaaDoor
