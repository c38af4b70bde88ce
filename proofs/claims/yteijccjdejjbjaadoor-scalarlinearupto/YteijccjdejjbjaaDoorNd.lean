import Derived.Test.YteijccjdejjbjaaDoorVa
import Derived.Test.YteijccjdejjbjaaDoorHs
import Derived.OwnWalk
import Derived.Laws.AppendOwn
import Derived.Laws.OwnMore
import Derived.Below
import Derived.ChangeSlices
import Derived.ProofKit
import Derived.OpenShut
import Derived.WideKeyArgs
import Derived.DataReads
namespace Go.Proofs.YteijccjdejjbjaaDoor
open Go.ChangeShapes Go.WideShapes Go.ChangeAt Go.WideMaps Go.WideElems Go.RowKit Go.Shelf ScalarNum

def Up (w w' : World) : Prop := Below w.heap.size w w'
theorem Up.refl (w : World) : Up w w := Below.refl _ _
theorem Up.alloc {a w : World} (h : Up a w) (o : Obj) : Up a (w.alloc o) := Below.alloc h h.size o
theorem Lain.below {a w w' : World} {B : Nat} (h : Lain a w) (hB : a.heap.size ≤ B) (k : Below B w w') : Lain a w' :=
  ⟨k.os.trans h.1, k.output.trans h.2.1, Nat.le_trans h.2.2.1 k.size, fun i hi => (k.block i (by omega)).trans (h.2.2.2 i hi)⟩
theorem Lain.alloc {a w : World} (h : Lain a w) (o : Obj) : Lain a (w.alloc o) := h.below (Nat.le_refl _) (Below.mono ((Up.refl w).alloc o) h.2.2.1)
theorem add_plain (b off j : Nat) : (⟨b, off, none⟩ : Addr).add j = ⟨b, off + j, none⟩ := by unfold Addr.add; split <;> simp_all
theorem cells_new (w : World) (t : TypeId) (l : List Value) : ∀ j u, l[j]? = some u → (w.alloc (.cells l.toArray t)).cell? ((⟨w.heap.size, 0, none⟩ : Addr).add j) = some u := by
  intro j u h
  rw [add_plain, Nat.zero_add]
  have e : (w.alloc (.cells l.toArray t)).heap[w.heap.size]? = some (.cells l.toArray t) := by
    show (w.heap.push _)[w.heap.size]? = _
    simp
  simp only [World.cell?, e]
  simpa using h
set_option maxRecDepth 100000 in
theorem Tryd.infoI8 : (Tryd.prog.info? 40).map (fun i => (i.zero, i.size, i.bytes)) = some (some (.int .i8 0), 1, 1) := by kernel_rfl
def c8 (l : List I8) : List Value := l.map fun c => Value.int .i8 c.1
theorem c8_length (l : List I8) : (c8 l).length = l.length := by simp [c8]
theorem c8_append (a b : List I8) : c8 (a ++ b) = c8 a ++ c8 b := by simp [c8]
theorem c8_get {l : List I8} {i : Nat} (h : i < l.length) : (c8 l)[i]? = some (.int .i8 l[i].1) := by simp [c8, h]
theorem c8_one (l : List I8) : ∀ u ∈ c8 l, u.oneCell' = true := by
  intro u hu
  obtain ⟨c, _, rfl⟩ := List.mem_map.1 hu
  rfl
/-- a list of digits of one's own; one that is read -/
def Own8 (w : World) (B : Nat) (v : Value) (l : List I8) : Prop := w.ownsRow B 40 1 v l.length (c8 l)
def Sl8 (w : World) (v : Value) (l : List I8) : Prop := ∃ a c, v = .slice a l.length c ∧ l.length ≤ c ∧ (l = [] ∨ ∃ b off, a = some ⟨b, off, none⟩ ∧ b < w.heap.size ∧ ∀ i (h : i < l.length), w.cell? ⟨b, off + i, none⟩ = some (.int .i8 l[i].1))
theorem own8_nil (w : World) (B : Nat) : Own8 w B (.slice none 0 0) [] := World.ownsRow_nil w B 40 1
theorem Sl8.lain {w w' : World} {v : Value} {l : List I8} (h : Sl8 w v l) (k : Lain w w') : Sl8 w' v l := by
  obtain ⟨a, c, e, hc0, h⟩ := h
  refine ⟨a, c, e, hc0, ?_⟩
  rcases h with h | ⟨b, off, e2, hb, hc⟩
  · exact .inl h
  · exact .inr ⟨b, off, e2, Nat.lt_of_lt_of_le hb k.2.2.1, fun i hi => (k.cell _ hb).trans (hc i hi)⟩
theorem Own8.sl {w : World} {B : Nat} {v : Value} {l : List I8} (h : Own8 w B v l) : Sl8 w v l := by
  have h2 := h.2
  rcases h2 with ⟨rfl, e⟩ | ⟨g, cap, cur, rfl, hbg, hg, hnc, _⟩
  · have hl : l = [] := List.eq_nil_of_length_eq_zero e
    subst hl
    exact ⟨none, 0, rfl, Nat.le_refl _, .inl rfl⟩
  · refine ⟨_, _, rfl, hnc, .inr ⟨g, 0, rfl, ?_, fun i hi => ?_⟩⟩
    · have := (World.ownsRow.lt h g rfl).2; exact this
    · have := World.ownsRow.cells h (g := g) rfl i _ (c8_get hi)
      rwa [add_plain] at this
theorem Own8.below {w w' : World} {B : Nat} {v : Value} {l : List I8} (h : Own8 w B v l) (k : Lain w w') : Own8 w' B v l := by
  refine ⟨h.1, ?_⟩
  rcases h.2 with e | ⟨g, cap, cur, e, hbg, hg, r⟩
  · exact .inl e
  · have hlt : g < w.heap.size := by
      rcases Nat.lt_or_ge g w.heap.size with h1 | h1
      · exact h1
      · rw [Array.getElem?_eq_none h1] at hg; cases hg
    exact .inr ⟨g, cap, cur, e, hbg, by rw [k.2.2.2 g hlt]; exact hg, r⟩
theorem Own8.len {w : World} {B : Nat} {v : Value} {l : List I8} (h : Own8 w B v l) : ∃ a c, v = .slice a l.length c := by
  rcases h.2 with ⟨rfl, e⟩ | ⟨g, cap, cur, rfl, _⟩
  · exact ⟨none, 0, by rw [e]⟩
  · exact ⟨_, _, rfl⟩
def z8 : I8 := ⟨0, by decide⟩
/-- the digits of a list as a function -/
def at8 (l : List I8) (j : Nat) : I8 := l.getD j z8
theorem at8_lt {l : List I8} {j : Nat} (h : j < l.length) : at8 l j = l[j] := by simp [at8, List.getD, h]
theorem Sl8.dig {w : World} {v : Value} {l : List I8} (h : Sl8 w v l) : DigS w.heap.size w v l.length (at8 l) := by
  obtain ⟨a, c, rfl, _, h⟩ := h
  rcases h with rfl | ⟨b, off, rfl, hb, hc⟩
  · exact .inl ⟨rfl, a, c, rfl⟩
  · exact .inr ⟨b, off, c, rfl, hb, fun j hj => by rw [hc j hj, at8_lt hj]⟩
/-- digits that stand in memory are appended to a list of one's own -/
theorem wpList_app8 {ops : Array Oper} {rest : List Oper} {o : Oper} {a : Act} {w : World} {Q : Exit → Act → World → Prop} (hgd : o.guard = none) (s x : Operand)
    (ho : o.op = .call { callee := .builtin .append, args := #[s, x], argTypes := #[30, 30] }) (B : Nat) (v : Value) (l m : List I8) (hs : a.eval s = v) (hown : Own8 w B v l)
    (ad : Addr) (c : Nat) (hx : a.eval x = .slice (some ad) m.length c) (hm : ∀ j u, (c8 m)[j]? = some u → w.cell? (ad.add j) = some u) (hn : l.length + m.length ≤ 140737488355328) (hB : B ≤ w.heap.size)
    (h : ∀ v' w', Own8 w' B v' (l ++ m) → Below B w w' → wpList Tryd.prog ops Q rest (a.put o.dst v') w') : wpList Tryd.prog ops Q (o :: rest) a w := by
  obtain ⟨i0, hi, hz0, hz1, hz2⟩ := info_parts Tryd.infoI8
  refine wpList_append_own w hgd s x 30 ho B 40 i0 (.int .i8 0) 1 1 Tryd.underlying30 hi hz0 hz1 hz2 rfl (by decide) v l.length (c8 l) hs hown ad m.length c (c8 m) hx (by simp [c8]) hm (c8_one m) (by unfold maxLen; omega) (by omega) hB ?_
  intro v' w' h1 h2 _
  refine h v' w' ?_ ((Below.refl B w).grown h2 hB (fun k hk => (World.ownsRow.lt hown k hk).1))
  unfold Own8
  rw [List.length_append, c8_append]
  exact h1
theorem wpList_app81 {ops : Array Oper} {rest : List Oper} {o : Oper} {a : Act} {w : World} {t : TypeId} {Q : Exit → Act → World → Prop} (hgd : o.guard = none) (s x : Operand)
    (ho : o.op = .call { callee := .builtin .append, args := #[s, x], argTypes := #[30, 30] }) (B : Nat) (v : Value) (l m : List I8) (hs : a.eval s = v) (hown : Own8 w B v l)
    (c : Nat) (hx : a.eval x = .slice (some ⟨w.heap.size, 0, none⟩) m.length c) (hn : l.length + m.length ≤ 140737488355328) (hB : B ≤ w.heap.size)
    (h : ∀ v' w', Own8 w' B v' (l ++ m) → Below B w w' → wpList Tryd.prog ops Q rest (a.put o.dst v') w') : wpList Tryd.prog ops Q (o :: rest) a (w.alloc (.cells (c8 m).toArray t)) := by
  refine wpList_app8 hgd s x ho B v l m hs (Own8.below hown ((Lain.refl w).alloc _)) _ c hx (cells_new w t (c8 m)) hn (by simp; omega) ?_
  intro v' w' h1 h2
  exact h v' w' h1 (((Below.refl B w).alloc hB _).trans h2)
theorem run_app_none8 {w : World} {v : Value} {B : Nat} {l : List I8} {ty : TypeId} {c : Nat} (h : Own8 w B v l) : (Builtin.append_ #[30, 30] ty #[v, .slice none 0 c]).run Tryd.prog w = .ok v w := by
  obtain ⟨i0, hi, hz0, hz1, hz2⟩ := info_parts Tryd.infoI8
  rcases h.2 with ⟨rfl, h1⟩ | ⟨g, cap, cur, rfl, _, _, hnc, _⟩
  · simp [Builtin.append_, run_underlying Tryd.underlying30, sizeOf, typeInfo, hi, Builtin.lenOf, Builtin.firstCells]
  · simp [Builtin.append_, run_underlying Tryd.underlying30, sizeOf, typeInfo, hi, Builtin.lenOf, Builtin.firstCells, hnc, storeCells]
theorem wpList_appSl8 {ops : Array Oper} {rest : List Oper} {o : Oper} {a : Act} {w : World} {Q : Exit → Act → World → Prop} (hgd : o.guard = none) (s x : Operand)
    (ho : o.op = .call { callee := .builtin .append, args := #[s, x], argTypes := #[30, 30] }) (B : Nat) (v vx : Value) (l m : List I8) (hs : a.eval s = v) (hown : Own8 w B v l)
    (hx : a.eval x = vx) (hm : Sl8 w vx m) (hn : l.length + m.length ≤ 140737488355328) (hB : B ≤ w.heap.size)
    (h : ∀ v' w', Own8 w' B v' (l ++ m) → Below B w w' → wpList Tryd.prog ops Q rest (a.put o.dst v') w') : wpList Tryd.prog ops Q (o :: rest) a w := by
  obtain ⟨ad, c, rfl, hc, hm⟩ := hm
  cases ad with
  | some ad =>
    refine wpList_app8 hgd s x ho B v l m hs hown ad c hx ?_ hn hB h
    rcases hm with rfl | ⟨b, off, e, hb, hcell⟩
    · intro j u hj; simp [c8] at hj
    · cases e
      intro j u hj
      have hjl : j < m.length := by have := (List.getElem?_eq_some_iff.1 hj).1; rwa [c8_length] at this
      rw [c8_get hjl] at hj
      rw [add_plain, hcell j hjl]; exact hj
  | none =>
    rcases hm with rfl | ⟨b, off, e, _⟩
    · refine wpList_plain hgd fun K hK => ?_
      have hr := run_app_none8 (ty := o.type) (c := c) hown
      unfold Oper.wp execOp
      simp only [List.length_nil] at hx
      simp only [ho, resolve, invoke, builtin, Sem.run_bind, Sem.run_pure, Result.andThen_ok, List.map_toArray, List.map_cons, List.map_nil, hs, hx, hr]
      exact hK _ _ (h v w (by rw [List.append_nil]; exact hown) (Below.refl _ _))
    · cases e
theorem one_le {H : Type} (d : DataW H) : 1 ≤ Rows.uptoBulk d := by
  cases d with
  | lit l => cases l <;> simp [Rows.uptoBulk]
  | nil => simp [Rows.uptoBulk]
  | ptr d => simp [Rows.uptoBulk]
  | slice elems spare => simp [Rows.uptoBulk]
  | agg parts => simp [Rows.uptoBulk]
  | iface t d => simp [Rows.uptoBulk]
  | map entries => simp [Rows.uptoBulk]
  | held h => simp [Rows.uptoBulk]
theorem len_le {H : Type} (l : List (DataW H)) : l.length ≤ Rows.uptoBulkAll l := by
  induction l with
  | nil => simp [Rows.uptoBulkAll]
  | cons x r ih => have := one_le x; simp only [Rows.uptoBulkAll, List.length_cons]; omega
set_option maxRecDepth 100000 in
theorem cells8i : Tryd.prog.cellsOf 40 = 1 := by kernel_rfl
def toI8 (z : Int) : I8 := if h : -128 ≤ z ∧ z ≤ 127 then ⟨z, h⟩ else z8
/-- a list of digits as an argument -/
theorem open_digits {H : Type} {enc : TypeId × Value → H} {W : World} {v : Value} {d : DataW H} {ps : List MemPlace} (h : DataW.Trod enc Tryd.prog W 0 (fun _ => true) true 30 v d ps) (a : Option Addr) (len cap : Nat) (hv : v = .slice a len cap) :
    ∃ l, Sl8 W v l ∧ l.length ≤ Rows.uptoBulk d := by
  subst hv
  obtain ⟨fuel, hf⟩ := h
  have hf' : DataW.trod enc Tryd.prog W 0 (fun _ => true) true fuel 30 [.slice a len cap] = some (d, ps) := hf
  rcases open_ints Tryd.underlying30 Tryd.underlying40 cells8i hf' with ⟨e1, _⟩ | ⟨ad, l2, c2, zs, e1, _, hlc, _, hzl, hx, hcell, hwf⟩
  · simp only [List.cons.injEq, Value.slice.injEq, and_true] at e1
    obtain ⟨rfl, rfl, rfl⟩ := e1
    exact ⟨[], ⟨none, 0, rfl, Nat.le_refl _, .inl rfl⟩, Nat.zero_le _⟩
  · simp only [List.cons.injEq, Value.slice.injEq, and_true] at e1
    obtain ⟨rfl, rfl, rfl⟩ := e1
    simp only [if_true] at hzl
    injection hx with hd _
    refine ⟨(zs.take len).map toI8, ⟨some ad, cap, ?_, ?_, ?_⟩, ?_⟩
    · rw [List.length_map, List.length_take, Nat.min_eq_left (by omega)]
    · rw [List.length_map, List.length_take]; omega
    · rcases Nat.eq_zero_or_pos len with h0 | h0
      · left; subst h0; simp
      · right
        have h00 := hcell 0 (by omega)
        obtain ⟨b, off, rfl⟩ : ∃ b off, ad = ⟨b, off, none⟩ := by
          obtain ⟨b, off, sp⟩ := ad
          cases sp with
          | none => exact ⟨b, off, rfl⟩
          | some s => exfalso; simp only [World.cell?, Addr.add] at h00; split at h00 <;> simp at h00
        refine ⟨b, off, rfl, block_lt_of_cell (a := ⟨b, off + 0, none⟩) (by rw [add_plain] at h00; exact h00), fun i hi => ?_⟩
        rw [List.length_map, List.length_take] at hi
        have h1 := hcell i (by omega)
        rw [add_plain] at h1
        rw [h1]
        have hi2 : i < zs.length := by omega
        have hz := hwf zs[i] (List.getElem_mem hi2)
        have hb : -128 ≤ zs[i] ∧ zs[i] ≤ 127 := by
          simpa [Lit.wf, IntKind.min, IntKind.max, IntKind.signed, IntKind.bits] using hz
        simp only [List.getElem_map, List.getElem_take, List.getD_eq_getElem?_getD, List.getElem?_eq_getElem hi2, Option.getD_some]
        rw [toI8, dif_pos hb]
    · rw [hd]
      simp only [Rows.uptoBulk, List.length_map]
      have := len_le (lits (H := H) .i8 (zs.take len))
      have e : (lits (H := H) .i8 (zs.take len)).length = (zs.take len).length := by simp [lits]
      omega
end Go.Proofs.YteijccjdejjbjaaDoor
