import Derived.Test.YtaobnnlcfefodaaGreatDoorTa
import Derived.Test.YtaobnnlcfefodaaGreatDoorHg
import Derived.Laws.OwnMore
import Derived.ChangeSlices
import Derived.ProofKit
import Derived.OpenShut
import Derived.WideKeyArgs
import Derived.DataReads
namespace Go.Proofs.YtaobnnlcfefodaaGreatDoor
open Go.ChangeShapes Go.WideShapes Go.ChangeAt Go.WideMaps Go.WideElems Go.RowKit TextNum

/-- a list that is read is appended to a list of one's own -/
theorem run_app_none {w : World} {v : Value} {B : Nat} {l : List UInt8} {ty : TypeId} {c : Nat} (h : Own w B v l) : (Builtin.append_ #[23, 23] ty #[v, .slice none 0 c]).run Tryz.prog w = .ok v w := by
  obtain ⟨i0, hi, hz0, hz1, hz2⟩ := info_parts Tryz.info8
  rcases h.2 with ⟨rfl, h1⟩ | ⟨g, cap, cur, rfl, _, _, hnc, _⟩
  · simp [Builtin.append_, run_underlying Tryz.underlying23, sizeOf, typeInfo, hi, Builtin.lenOf, Builtin.firstCells]
  · simp [Builtin.append_, run_underlying Tryz.underlying23, sizeOf, typeInfo, hi, Builtin.lenOf, Builtin.firstCells, hnc, storeCells]
theorem wpList_appSl {ops : Array Oper} {rest : List Oper} {o : Oper} {a : Act} {w : World} {Q : Exit → Act → World → Prop} (hgd : o.guard = none) (s x : Operand)
    (ho : o.op = .call { callee := .builtin .append, args := #[s, x], argTypes := #[23, 23] }) (B : Nat) (v vx : Value) (l m : List UInt8) (hs : a.eval s = v) (hown : Own w B v l)
    (hx : a.eval x = vx) (hm : Sl w vx m) (hn : l.length + m.length ≤ 140737488355328) (hB : B ≤ w.heap.size)
    (h : ∀ v' w', Own w' B v' (l ++ m) → Below B w w' → wpList Tryz.prog ops Q rest (a.put o.dst v') w') : wpList Tryz.prog ops Q (o :: rest) a w := by
  obtain ⟨ad, c, rfl, hc, hm⟩ := hm
  cases ad with
  | some ad =>
    refine wpList_app hgd s x ho B v l m hs hown ad c hx ?_ hn hB h
    rcases hm with rfl | ⟨b, off, e, hb, hcell⟩
    · intro j u hj; simp [cb] at hj
    · cases e
      intro j u hj
      have hjl : j < m.length := by have := (List.getElem?_eq_some_iff.1 hj).1; rwa [cb_length] at this
      rw [cb_get hjl] at hj
      rw [add_plain, hcell j hjl]; exact hj
  | none =>
    rcases hm with rfl | ⟨b, off, e, _⟩
    · refine wpList_plain hgd fun K hK => ?_
      have hr := run_app_none (ty := o.type) (c := c) hown
      unfold Oper.wp execOp
      simp only [List.length_nil] at hx
      simp only [ho, resolve, invoke, builtin, Sem.run_bind, Sem.run_pure, Result.andThen_ok, List.map_toArray, List.map_cons, List.map_nil, hs, hx, hr]
      exact hK _ _ (h v w (by rw [List.append_nil]; exact hown) (Below.refl _ _))
    · cases e

/-- a[:k], a[k:] -/
theorem sl_take {w : World} {a : Option Addr} {n c k : Nat} {l : List UInt8} (h : Sl w (.slice a n c) l) (hk : k ≤ l.length) : Sl w (.slice a k c) (l.take k) := by
  obtain ⟨a', c', e, hc, h⟩ := h
  cases e
  refine ⟨a, c, by rw [List.length_take, Nat.min_eq_left hk], by rw [List.length_take]; omega, ?_⟩
  rcases h with rfl | ⟨b, off, rfl, hb, hcell⟩
  · exact .inl (by simp)
  · exact .inr ⟨b, off, rfl, hb, fun i hi => by
      have hi' : i < l.length := by rw [List.length_take] at hi; omega
      rw [hcell i hi', List.getElem_take]⟩
theorem sliced_drop {w : World} {a : Option Addr} {n c k : Nat} {l : List UInt8} (h : Sl w (.slice a n c) l) (hk : k ≤ l.length) : Sl w (sliced a k n c 1) (l.drop k) := by
  obtain ⟨a', c', e, hc, h⟩ := h
  cases e
  unfold sliced
  refine ⟨_, _, by rw [List.length_drop], by rw [List.length_drop]; omega, ?_⟩
  rcases Nat.lt_or_ge k l.length with hlt | hge
  · rcases h with rfl | ⟨b, off, rfl, hb, hcell⟩
    · simp at hlt
    · refine .inr ⟨b, off + k, ?_, hb, fun i hi => ?_⟩
      · rw [if_neg (by omega), Option.map_some, Nat.mul_one, add_plain]
      · rw [List.length_drop] at hi
        rw [Nat.add_assoc, hcell (k + i) (by omega), List.getElem_drop]
  · exact .inl (List.drop_eq_nil_of_le hge)

theorem one_le {H : Type} (d : DataW H) : 1 ≤ Rows.uptoBulk d := by
  cases d with
  | lit l => cases l <;> simp [Rows.uptoBulk]
  | nil => simp [Rows.uptoBulk]
  | ptr d => simp [Rows.uptoBulk]
  | slice elems spare => simp [Rows.uptoBulk]
  | agg parts => simp [Rows.uptoBulk]
  | iface t d => simp [Rows.uptoBulk]
  | map entries => simp [Rows.uptoBulk]
  | held h => simp [Rows.uptoBulk]
theorem len_le {H : Type} (l : List (DataW H)) : l.length ≤ Rows.uptoBulkAll l := by
  induction l with
  | nil => simp [Rows.uptoBulkAll]
  | cons x r ih => have := one_le x; simp only [Rows.uptoBulkAll, List.length_cons]; omega
set_option maxRecDepth 100000 in
theorem cells8' : Tryz.prog.cellsOf 5 = 1 := by kernel_rfl
/-- a list of bytes as an argument -/
theorem open_bytes {H : Type} {enc : TypeId × Value → H} {W : World} {v : Value} {d : DataW H} {ps : List MemPlace} (h : DataW.Trod enc Tryz.prog W 0 (fun _ => true) true 23 v d ps) (a : Option Addr) (len cap : Nat) (hv : v = .slice a len cap) :
    ∃ l, Sl W v l ∧ l.length ≤ Rows.uptoBulk d := by
  subst hv
  obtain ⟨fuel, hf⟩ := h
  have hf' : DataW.trod enc Tryz.prog W 0 (fun _ => true) true fuel 23 [.slice a len cap] = some (d, ps) := hf
  rcases open_ints Tryz.underlying23 Tryz.underlying5 cells8' hf' with ⟨e1, _⟩ | ⟨ad, l2, c2, zs, e1, _, hlc, _, hzl, hx, hcell, hwf⟩
  · simp only [List.cons.injEq, Value.slice.injEq, and_true] at e1
    obtain ⟨rfl, rfl, rfl⟩ := e1
    exact ⟨[], ⟨none, 0, rfl, Nat.le_refl _, .inl rfl⟩, Nat.zero_le _⟩
  · simp only [List.cons.injEq, Value.slice.injEq, and_true] at e1
    obtain ⟨rfl, rfl, rfl⟩ := e1
    simp only [if_true] at hzl
    injection hx with hd _
    refine ⟨(zs.take len).map fun z => UInt8.ofNat z.toNat, ⟨some ad, cap, ?_, ?_, ?_⟩, ?_⟩
    · rw [List.length_map, List.length_take, Nat.min_eq_left (by omega)]
    · rw [List.length_map, List.length_take]; omega
    · rcases Nat.eq_zero_or_pos len with h0 | h0
      · left; subst h0; simp
      · right
        have h00 := hcell 0 (by omega)
        obtain ⟨b, off, rfl⟩ : ∃ b off, ad = ⟨b, off, none⟩ := by
          obtain ⟨b, off, sp⟩ := ad
          cases sp with
          | none => exact ⟨b, off, rfl⟩
          | some s => exfalso; simp only [World.cell?, Addr.add] at h00; split at h00 <;> simp at h00
        refine ⟨b, off, rfl, lt_of_cell (i := off + 0) (by rw [add_plain] at h00; exact h00), fun i hi => ?_⟩
        rw [List.length_map, List.length_take] at hi
        have h1 := hcell i (by omega)
        rw [add_plain] at h1
        rw [h1]
        have hi2 : i < zs.length := by omega
        have hz := hwf zs[i] (List.getElem_mem hi2)
        have hb : 0 ≤ zs[i] ∧ zs[i] ≤ 255 := by
          simpa [Lit.wf, IntKind.min, IntKind.max, IntKind.signed, IntKind.bits] using hz
        simp only [List.getElem_map, List.getElem_take, List.getD_eq_getElem?_getD, List.getElem?_eq_getElem hi2, Option.getD_some]
        congr 2
        rw [ofNat_toNat (by omega)]
        omega
    · rw [hd]
      simp only [Rows.uptoBulk, List.length_map]
      have := len_le (lits (H := H) .u8 (zs.take len))
      have e : (lits (H := H) .u8 (zs.take len)).length = (zs.take len).length := by simp [lits]
      omega
end Go.Proofs.YtaobnnlcfefodaaGreatDoor
