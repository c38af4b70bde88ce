import Derived.Test.YtpjfmkmgfjhnmaaTw
namespace Go.Proofs.Ytpjfmkmgfjhnmaa
open Go.RowKit Tlg
theorem add_plain (b off j : Nat) : (⟨b, off, none⟩ : Addr).add j = ⟨b, off + j, none⟩ := by unfold Addr.add; split <;> simp_all
theorem cells_new (w : World) (t : TypeId) (l : List Value) : ∀ j u, l[j]? = some u → (w.alloc (.cells l.toArray t)).cell? ((⟨w.heap.size, 0, none⟩ : Addr).add j) = some u := by
  intro j u h
  rw [add_plain, Nat.zero_add]
  have e : (w.alloc (.cells l.toArray t)).heap[w.heap.size]? = some (.cells l.toArray t) := by
    show (w.heap.push _)[w.heap.size]? = _
    simp
  simp only [World.cell?, e]
  simpa using h
theorem Up.step {a w w' : World} {B : Nat} (h : Up a w) (hB : a.heap.size ≤ B) (k : Below B w w') : Up a w' := Below.trans h (Below.mono k hB)
def ci (l : List Nat) : List Value := l.map fun (n : Nat) => Value.int .i64 (n : Int)
theorem ci_append (a b : List Nat) : ci (a ++ b) = ci a ++ ci b := by simp [ci]
theorem ci_get {l : List Nat} {i : Nat} (h : i < l.length) : (ci l)[i]? = some (.int .i64 (l[i] : Int)) := by simp [ci, h]
theorem ci_one (l : List Nat) : ∀ u ∈ ci l, u.oneCell' = true := by
  intro u hu
  obtain ⟨c, _, rfl⟩ := List.mem_map.1 hu
  rfl

set_option maxRecDepth 100000 in
theorem Try.infoL : (Try.prog.info? 2).map (fun i => (i.zero, i.size, i.bytes)) = some (some (.int .i64 0), 1, 8) := by kernel_rfl
/-- a list of numbers of one's own -/
def OwnL (w : World) (B : Nat) (v : Value) (l : List Nat) : Prop := w.ownsRow B 2 1 v l.length (ci l)
theorem ownL_nil (w : World) (B : Nat) : OwnL w B (.slice none 0 0) [] := World.ownsRow_nil w B 2 1
theorem OwnL.len {w : World} {B : Nat} {v : Value} {l : List Nat} (h : OwnL w B v l) : ∃ a c, v = .slice a l.length c := by
  rcases h.2 with ⟨rfl, e⟩ | ⟨g, cap, cur, rfl, _⟩
  · exact ⟨none, 0, by rw [e]⟩
  · exact ⟨_, _, rfl⟩
theorem OwnL.below {w w' : World} {B : Nat} {v : Value} {l : List Nat} (h : OwnL w B v l) (k : Up w w') : OwnL w' B v l := by
  refine ⟨h.1, ?_⟩
  rcases h.2 with e | ⟨g, cap, cur, e, hbg, hg, r⟩
  · exact .inl e
  · have hlt : g < w.heap.size := by
      rcases Nat.lt_or_ge g w.heap.size with h1 | h1
      · exact h1
      · rw [Array.getElem?_eq_none h1] at hg; cases hg
    exact .inr ⟨g, cap, cur, e, hbg, by rw [k.block g hlt]; exact hg, r⟩
theorem OwnL.cells {w : World} {B : Nat} {v : Value} {l : List Nat} (h : OwnL w B v l) (h0 : l ≠ []) : ∃ g c, v = .slice (some ⟨g, 0, none⟩) l.length c ∧ l.length ≤ c ∧ g < w.heap.size ∧ ∀ i (hi : i < l.length), w.cell? ⟨g, i, none⟩ = some (.int .i64 (l[i] : Int)) := by
  rcases h.2 with ⟨rfl, e⟩ | ⟨g, cap, cur, rfl, hbg, hg, hnc, _⟩
  · exact absurd (List.eq_nil_of_length_eq_zero e) h0
  · refine ⟨g, cap, rfl, hnc, (World.ownsRow.lt h g rfl).2, fun i hi => ?_⟩
    have := World.ownsRow.cells h (g := g) rfl i _ (ci_get hi)
    rwa [add_plain, Nat.zero_add] at this
theorem wpList_appL {ops : Array Oper} {rest : List Oper} {o : Oper} {a : Act} {w : World} {t : TypeId} {Q : Exit → Act → World → Prop} (hgd : o.guard = none) (s x : Operand)
    (ho : o.op = .call { callee := .builtin .append, args := #[s, x], argTypes := #[26, 26] }) (B : Nat) (v : Value) (l : List Nat) (m : Nat) (hs : a.eval s = v) (hown : OwnL w B v l)
    (c : Nat) (hx : a.eval x = .slice (some ⟨w.heap.size, 0, none⟩) 1 c) (hn : l.length + 1 ≤ 17592186044416) (hB : B ≤ w.heap.size)
    (h : ∀ v' w', OwnL w' B v' (l ++ [m]) → Below B w w' → wpList Try.prog ops Q rest (a.put o.dst v') w') : wpList Try.prog ops Q (o :: rest) a (w.alloc (.cells (ci [m]).toArray t)) := by
  obtain ⟨i0, hi, hz0, hz1, hz2⟩ := info_parts Try.infoL
  refine wpList_append_own _ hgd s x 26 ho B 2 i0 (.int .i64 0) 1 8 Try.underlying26 hi hz0 hz1 hz2 rfl (by decide) v l.length (ci l) hs (OwnL.below hown ((Up.refl w).alloc _)) ⟨w.heap.size, 0, none⟩ 1 c (ci [m]) hx (by simp [ci]) (cells_new w t (ci [m])) (ci_one [m]) (by unfold maxLen; omega) (by omega) (by simp; omega) ?_
  intro v' w' h1 h2 _
  refine h v' w' ?_ (((Below.refl B w).alloc hB _).trans ((Below.refl B _).grown h2 (by simp; omega) (fun k hk => (World.ownsRow.lt hown k hk).1)))
  unfold OwnL
  rw [List.length_append, ci_append]
  exact h1
end Go.Proofs.Ytpjfmkmgfjhnmaa
