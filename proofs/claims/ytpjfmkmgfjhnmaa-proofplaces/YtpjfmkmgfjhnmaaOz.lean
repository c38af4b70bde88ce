import Derived.Test.YtpjfmkmgfjhnmaaOw
namespace Go.Proofs.Ytpjfmkmgfjhnmaa
open Go.RowKit Tlg
/-- what isn't of one type stays -/
def Kt (t : TypeId) (w w' : World) : Prop := ∀ (k : Nat) (cs : Array Value) (u : TypeId) (fz : Nat × Nat), u ≠ t → w.heap[k]? = some (Obj.cells cs u fz) → w'.heap[k]? = some (Obj.cells cs u fz)
theorem Kt.refl (t : TypeId) (w : World) : Kt t w w := fun _ _ _ _ _ h => h
theorem Kt.trans {t : TypeId} {a b c : World} (h : Kt t a b) (k : Kt t b c) : Kt t a c := fun g cs u fz hu hg => k g cs u fz hu (h g cs u fz hu hg)
theorem lt_of_at {w : World} {k : Nat} {o : Obj} (h : w.heap[k]? = some o) : k < w.heap.size := by
  rcases Nat.lt_or_ge k w.heap.size with h1 | h1
  · exact h1
  · rw [Array.getElem?_eq_none h1] at h; cases h
theorem Kt.up {t : TypeId} {w w' : World} (h : Up w w') : Kt t w w' := fun g cs u fz _ hg => by rw [h.block g (lt_of_at hg)]; exact hg
theorem Kt.grown {w w' : World} {B : Nat} {e : TypeId} {v : Value} {n : Nat} {xs : List Value} {size : Nat} (h : w.ownsRow B e size v n xs) (g : w.grownBy w' v.ownBlock) : Kt e w w' := by
  intro k cs u fz hu hk
  refine (g.block k (lt_of_at hk) ?_).trans hk
  intro he
  rcases h.2 with ⟨rfl, _⟩ | ⟨b, cap, cur, rfl, _, hb, _⟩
  · cases he
  · have : k = b := Option.some.inj he
    subst this
    rw [hb] at hk
    cases hk
    exact hu rfl
theorem OwnL.kt {w w' : World} {B : Nat} {v : Value} {l : List Nat} {t : TypeId} (h : OwnL w B v l) (k : Kt t w w') (ht : 2 ≠ t) : OwnL w' B v l := by
  refine ⟨h.1, ?_⟩
  rcases h.2 with e | ⟨g, cap, cur, e, hbg, hg, r⟩
  · exact .inl e
  · exact .inr ⟨g, cap, cur, e, hbg, k g _ _ _ ht hg, r⟩
theorem OwnL.mono {w : World} {B C : Nat} {v : Value} {l : List Nat} (h : OwnL w B v l) (hc : C ≤ B) : OwnL w C v l := by
  refine ⟨h.1, ?_⟩
  rcases h.2 with e | ⟨g, cap, cur, e, hbg, r⟩
  · exact .inl e
  · exact .inr ⟨g, cap, cur, e, Nat.le_trans hc hbg, r⟩
theorem wpList_appL2 {ops : Array Oper} {rest : List Oper} {o : Oper} {a : Act} {w : World} {t : TypeId} {Q : Exit → Act → World → Prop} (hgd : o.guard = none) (s x : Operand)
    (ho : o.op = .call { callee := .builtin .append, args := #[s, x], argTypes := #[26, 26] }) (B : Nat) (v : Value) (l : List Nat) (m : Nat) (hs : a.eval s = v) (hown : OwnL w B v l)
    (c : Nat) (hx : a.eval x = .slice (some ⟨w.heap.size, 0, none⟩) 1 c) (hn : l.length + 1 ≤ 17592186044416) (hB : B ≤ w.heap.size)
    (h : ∀ v' w', OwnL w' B v' (l ++ [m]) → Below B w w' → Kt 2 w w' → wpList Try.prog ops Q rest (a.put o.dst v') w') : wpList Try.prog ops Q (o :: rest) a (w.alloc (.cells (ci [m]).toArray t)) := by
  obtain ⟨i0, hi, hz0, hz1, hz2⟩ := info_parts Try.infoL
  have hown1 := OwnL.below hown ((Up.refl w).alloc (.cells (ci [m]).toArray t))
  refine wpList_append_own _ hgd s x 26 ho B 2 i0 (.int .i64 0) 1 8 Try.underlying26 hi hz0 hz1 hz2 rfl (by decide) v l.length (ci l) hs hown1 ⟨w.heap.size, 0, none⟩ 1 c (ci [m]) hx (by simp [ci]) (cells_new w t (ci [m])) (ci_one [m]) (by unfold maxLen; omega) (by omega) (by simp; omega) ?_
  intro v' w' h1 h2 _
  refine h v' w' ?_ (((Below.refl B w).alloc hB _).trans ((Below.refl B _).grown h2 (by simp; omega) (fun k hk => (World.ownsRow.lt hown k hk).1))) ((Kt.up ((Up.refl w).alloc _)).trans (Kt.grown hown1 h2))
  unfold OwnL
  rw [List.length_append, ci_append]
  exact h1

set_option maxRecDepth 100000 in
theorem Try.infoLL : (Try.prog.info? 26).map (fun i => (i.zero, i.size, i.bytes)) = some (some (.slice none 0 0), 1, 24) := by kernel_rfl
/-- a list of lists of one's own -/
def LL (w : World) (B : Nat) (v : Value) (L : List (List Nat)) : Prop := ∃ vs : List Value, w.ownsRow B 26 1 v L.length vs ∧ ∀ (j : Nat) (l : List Nat), L[j]? = some l → ∃ u, vs[j]? = some u ∧ OwnL w B u l
theorem lL_nil (w : World) (B : Nat) : LL w B (.slice none 0 0) [] := ⟨[], World.ownsRow_nil w B 26 1, fun j l h => by simp at h⟩
theorem ownsRow_up {w w' : World} {B : Nat} {e : TypeId} {size : Nat} {v : Value} {n : Nat} {xs : List Value} (h : w.ownsRow B e size v n xs) (k : Up w w') : w'.ownsRow B e size v n xs := by
  refine ⟨h.1, ?_⟩
  rcases h.2 with e | ⟨g, cap, cur, e, hbg, hg, r⟩
  · exact .inl e
  · exact .inr ⟨g, cap, cur, e, hbg, by rw [k.block g (lt_of_at hg)]; exact hg, r⟩
theorem LL.up {w w' : World} {B : Nat} {v : Value} {L : List (List Nat)} (h : LL w B v L) (k : Up w w') : LL w' B v L := by
  obtain ⟨vs, h1, h2⟩ := h
  exact ⟨vs, ownsRow_up h1 k, fun j l hl => by obtain ⟨u, e, o⟩ := h2 j l hl; exact ⟨u, e, o.below k⟩⟩
theorem LL.len {w : World} {B : Nat} {v : Value} {L : List (List Nat)} (h : LL w B v L) : ∃ a c, v = .slice a L.length c := by
  obtain ⟨vs, h1, _⟩ := h
  rcases h1.2 with ⟨rfl, e⟩ | ⟨g, cap, cur, rfl, _⟩
  · exact ⟨none, 0, by rw [e]⟩
  · exact ⟨_, _, rfl⟩
theorem wpList_appLL {ops : Array Oper} {rest : List Oper} {o : Oper} {a : Act} {w : World} {t : TypeId} {Q : Exit → Act → World → Prop} (hgd : o.guard = none) (s x : Operand)
    (ho : o.op = .call { callee := .builtin .append, args := #[s, x], argTypes := #[22, 22] }) (B : Nat) (v : Value) (L : List (List Nat)) (u : Value) (l : List Nat) (hs : a.eval s = v) (hown : LL w B v L) (hu : OwnL w B u l)
    (c : Nat) (hx : a.eval x = .slice (some ⟨w.heap.size, 0, none⟩) 1 c) (hn : L.length + 1 ≤ 1000000) (hB : B ≤ w.heap.size)
    (h : ∀ v' w', LL w' B v' (L ++ [l]) → Below B w w' → Kt 26 w w' → wpList Try.prog ops Q rest (a.put o.dst v') w') : wpList Try.prog ops Q (o :: rest) a (w.alloc (.cells #[u] t)) := by
  obtain ⟨i0, hi, hz0, hz1, hz2⟩ := info_parts Try.infoLL
  obtain ⟨vs, hrow, hin⟩ := hown
  have hrow1 := ownsRow_up hrow ((Up.refl w).alloc (.cells #[u] t))
  have hone : ∀ z ∈ [u], z.oneCell' = true := by
    intro z hz
    rw [List.mem_singleton] at hz
    subst hz
    obtain ⟨a1, c1, rfl⟩ := hu.len
    rfl
  refine wpList_append_own _ hgd s x 22 ho B 26 i0 (.slice none 0 0) 1 24 Try.underlying22 hi hz0 hz1 hz2 rfl (by decide) v L.length vs hs hrow1 ⟨w.heap.size, 0, none⟩ 1 c [u] hx (by simp) (cells_new w t [u]) hone (by unfold maxLen; omega) (by omega) (by simp; omega) ?_
  intro v' w' h1 h2 _
  have hk : Kt 26 w w' := (Kt.up ((Up.refl w).alloc _)).trans (Kt.grown hrow1 h2)
  refine h v' w' ?_ (((Below.refl B w).alloc hB _).trans ((Below.refl B _).grown h2 (by simp; omega) (fun k hk => (World.ownsRow.lt hrow k hk).1))) hk
  refine ⟨vs ++ [u], by rw [List.length_append]; exact h1, fun j lj hj => ?_⟩
  have hvl : vs.length = L.length := by have := hrow.1; omega
  rcases Nat.lt_or_ge j L.length with hlt | hge
  · rw [List.getElem?_append_left hlt] at hj
    obtain ⟨z, hz, oz⟩ := hin j lj hj
    exact ⟨z, by rw [List.getElem?_append_left (by omega)]; exact hz, oz.kt hk (by decide)⟩
  · rw [List.getElem?_append_right hge] at hj
    have hj0 : j - L.length = 0 := by
      rcases Nat.eq_zero_or_pos (j - L.length) with e | e
      · exact e
      · rw [List.getElem?_eq_none (by simp; omega)] at hj; cases hj
    rw [hj0] at hj
    simp only [List.getElem?_cons_zero, Option.some.injEq] at hj
    subst hj
    refine ⟨u, ?_, hu.kt hk (by decide)⟩
    rw [List.getElem?_append_right (by omega), show j - vs.length = 0 by omega]
    rfl
end Go.Proofs.Ytpjfmkmgfjhnmaa
