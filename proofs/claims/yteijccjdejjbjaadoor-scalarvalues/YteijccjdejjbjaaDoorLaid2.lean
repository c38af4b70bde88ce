import Derived.Test.YteijccjdejjbjaaDoorLaid
namespace Go.Proofs.YteijccjdejjbjaaDoor
open Go.ChangeShapes Go.WideShapes Go.ChangeAt Go.WideMaps Go.WideElems Go.RowKit Go.Shelf ScalarNum

theorem gOrd : Tryd.prog.globalNamed "ledger/ledgerref03.order" = some 1 := by kernel_rfl
theorem tOrd : (Tryd.prog.globals[1]?).map (·.type) = some 23 := by kernel_rfl
theorem ord_datum : (Rows.laid_ledger_ledgerref03_order : DataW Unit) = .agg ((List.range 32).map fun i => .lit (.int .u8 ((dg 256 L i : Nat) : Int))) := by kernel_rfl

theorem ord_of_read {W : World} {cs0 : Array Value} {f0 : Nat} {p0 : List MemPlace} {sp : Nat → Bool} (hc : ∀ i, W.cell? ⟨1, i, none⟩ = cs0[i]?)
    (hd0 : DataW.trod (fun _ => ()) Tryd.prog W 0 sp false f0 23 cs0.toList = some (Rows.laid_ledger_ledgerref03_order, p0)) : W.rangeAt 1 0 (yl 32 L) := by
  rw [ord_datum] at hd0
  obtain ⟨xs, m1, rfl, hx1, hlen, hn, hel⟩ := DataW.trod_array Tryd.underlying23 hd0
  rw [cells8] at hel
  simp only [Prod.mk.injEq] at hx1
  have hD := hx1.1
  simp only [DataW.agg.injEq] at hD
  have hl : cs0.toList.length = 32 := hlen.trans (by kernel_rfl)
  intro j v hv
  have hj : j < 32 := by
    have := (List.getElem?_eq_some_iff.1 hv).1; rwa [yl_length] at this
  rw [yl_get 32 L j hj] at hv
  injection hv with hv
  subst hv
  rw [Nat.zero_add, hc j, ← Array.getElem?_toList]
  have h1 := hel j hj
  have h2 := congrArg (·[j]?) hD
  simp only [List.getElem?_map, List.getElem?_range hj, Option.map_some] at h2
  cases hy : xs[j]? with
  | none => rw [hy] at h2; simp at h2
  | some y =>
    rw [hy] at h1 h2
    simp only [Option.map_some, Option.some.injEq] at h2
    rw [Nat.mul_one, List.drop_eq_getElem_cons (by omega), List.take_succ_cons, List.take_zero] at h1
    obtain ⟨z0, e0, b0, _⟩ := DataW.trod_int Tryd.underlying5 h1
    simp at e0
    rw [b0] at h2
    simp at h2
    rw [List.getElem?_eq_getElem (by omega)]
    simp [e0, h2]

theorem both_of_laid {W : World} (h : laidMetH Tryd.prog Rows.scalarReducesRow.laid W) : Tab W ∧ W.rangeAt 1 0 (yl 32 L) := by
  rw [MakeChecks.laidMetH_plain _ _ _ (by kernel_rfl)] at h
  obtain ⟨ps, ⟨g0, t0, cs0, f0, p0, q0, hg0, ht0, hv0, hd0, ⟨g1, t1, cs1, f1, p1, q1, hg1, ht1, hv1, hd1, _, _⟩, _⟩, _, _⟩ := h
  obtain rfl := Option.some.inj (gOrd.symm.trans hg0)
  obtain rfl := Option.some.inj (tOrd.symm.trans ht0)
  obtain rfl := Option.some.inj (gTab.symm.trans hg1)
  obtain rfl := Option.some.inj (tTab.symm.trans ht1)
  exact ⟨tab_of_read (World.var?_cell hg1 hv1) hd1, ord_of_read (World.var?_cell hg0 hv0) hd0⟩
end Go.Proofs.YteijccjdejjbjaaDoor
