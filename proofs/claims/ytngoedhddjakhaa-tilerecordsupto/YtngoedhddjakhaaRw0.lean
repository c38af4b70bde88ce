import Derived.Test.YtngoedhddjakhaaRu
namespace Go.Proofs.Ytngoedhddjakhaa
open Go.RowKit Go.Shelf TextNum TileNum
theorem OwnN.kt {w w' : World} {B : Nat} {v : Value} {l : List UInt8} {t : TypeId} (h : OwnN w B v l) (k : Kt t w w') (ht : 5 ≠ t) : OwnN w' B v l := by
  obtain ⟨g, off, cap, cur, fr, e, hB, hg, r⟩ := h
  exact ⟨g, off, cap, cur, fr, e, hB, k g _ _ _ ht hg, r⟩
theorem OwnN.base {w : World} {B B' : Nat} {v : Value} {l : List UInt8} (h : OwnN w B v l) (hB : B' ≤ B) : OwnN w B' v l := by
  obtain ⟨g, off, cap, cur, fr, e, hb, r⟩ := h
  exact ⟨g, off, cap, cur, fr, e, Nat.le_trans hB hb, r⟩
/-- a list that was lent, and its room -/
def Ln (w : World) (B : Nat) (p q : Value) (r : List UInt8) : Prop := ∃ g, p = .slice (some ⟨g, 0, none⟩) r.length (r.length + 200) ∧ q = .slice (some ⟨g, 0, none⟩) (r.length + 200) (r.length + 200) ∧ OwnN w B q (lt7 r)
theorem Ln.room {w : World} {B : Nat} {p q : Value} {r : List UInt8} (h : Ln w B p q r) : Sl w q (lt7 r) := by
  obtain ⟨g, _, _, h⟩ := h
  exact h.sl
theorem Ln.own {w : World} {B : Nat} {p q : Value} {r : List UInt8} (h : Ln w B p q r) : Sl w p r := by
  obtain ⟨g, rfl, rfl, h⟩ := h
  have := sl_take h.sl (k := r.length) (by rw [lt7_len]; omega)
  rw [lt7, List.take_left] at this
  exact this
theorem Ln.kt {w w' : World} {B : Nat} {p q : Value} {r : List UInt8} {t : TypeId} (h : Ln w B p q r) (k : Kt t w w') (ht : 5 ≠ t) : Ln w' B p q r := by
  obtain ⟨g, e1, e2, h⟩ := h
  exact ⟨g, e1, e2, h.kt k ht⟩
/-- all that was lent, and the rooms -/
def TwT (w : World) (B : Nat) (u v : Value) (rs : List (List UInt8)) : Prop := ∃ xs ys, OwnT w B u xs ∧ OwnT w B v ys ∧ xs.length = rs.length ∧ ys.length = rs.length ∧ (∀ g, u.ownBlock = some g → v.ownBlock ≠ some g) ∧ ∀ (j : Nat) (r : List UInt8), rs[j]? = some r → ∃ p q, xs[j]? = some p ∧ ys[j]? = some q ∧ Ln w B p q r
theorem twT_nil (w : World) (B : Nat) : TwT w B (.slice none 0 0) (.slice none 0 0) [] := ⟨[], [], World.ownsRow_nil w B 23 1, World.ownsRow_nil w B 23 1, rfl, rfl, fun g h => (by cases h), fun j r h => (by simp at h)⟩
theorem slT_of {w : World} {B : Nat} {v : Value} {xs : List Value} {rs : List (List UInt8)} (h1 : OwnT w B v xs) (h2 : xs.length = rs.length) (h3 : ∀ (j : Nat) (r : List UInt8), rs[j]? = some r → ∃ u, xs[j]? = some u ∧ Sl w u r) : SlT w v rs := by
  have h1' := h1
  rcases h1.2 with ⟨rfl, e⟩ | ⟨g, cap, cur, rfl, hbg, hg, hnc, _⟩
  · have hl : rs = [] := List.eq_nil_of_length_eq_zero (by omega)
    subst hl
    exact slT_nil w
  · refine ⟨_, cap, by rw [h2], by omega, .inr ⟨g, 0, rfl, lt_of_at hg, fun i hi => ?_⟩⟩
    obtain ⟨u, e, o⟩ := h3 i _ (List.getElem?_eq_getElem hi)
    have := World.ownsRow.cells h1' (g := g) rfl i _ e
    rw [add_plain] at this
    exact ⟨u, this, o⟩
theorem TwT.own {w : World} {B : Nat} {u v : Value} {rs : List (List UInt8)} (h : TwT w B u v rs) : SlT w u rs := by
  obtain ⟨xs, ys, h1, h2, h3, h4, _, h6⟩ := h
  exact slT_of h1 h3 (fun j r hr => by obtain ⟨p, q, e1, e2, l⟩ := h6 j r hr; exact ⟨p, e1, l.own⟩)
theorem TwT.rooms {w : World} {B : Nat} {u v : Value} {rs : List (List UInt8)} (h : TwT w B u v rs) : SlT w v (rs.map lt7) := by
  obtain ⟨xs, ys, h1, h2, h3, h4, _, h6⟩ := h
  refine slT_of h2 (by rw [List.length_map]; exact h4) (fun j r hr => ?_)
  rw [List.getElem?_map, Option.map_eq_some_iff] at hr
  obtain ⟨r0, hr0, rfl⟩ := hr
  obtain ⟨p, q, e1, e2, l⟩ := h6 j r0 hr0
  exact ⟨q, e2, l.room⟩
theorem OwnT.kept {w w' : World} {B : Nat} {v : Value} {xs : List Value} {row : Option Nat} (h : OwnT w B v xs) (hg : w.grownBy w' row) (hne : ∀ g, v.ownBlock = some g → row ≠ some g) : OwnT w' B v xs := by
  refine World.ownsRow.kept h hg ?_
  rcases hb : v.ownBlock with _ | b
  · exact .inl rfl
  · exact .inr (fun e => hne b hb e.symm)
/-- the room is appended, then the list: what lies between -/
def TwH (w : World) (B : Nat) (u v : Value) (rs : List (List UInt8)) (p q : Value) (r : List UInt8) : Prop := ∃ xs ys, OwnT w B u xs ∧ OwnT w B v (ys ++ [q]) ∧ xs.length = rs.length ∧ ys.length = rs.length ∧ (∀ g, u.ownBlock = some g → v.ownBlock ≠ some g) ∧ Ln w B p q r ∧ ∀ (j : Nat) (r : List UInt8), rs[j]? = some r → ∃ p q, xs[j]? = some p ∧ ys[j]? = some q ∧ Ln w B p q r
theorem twT_rooms {ops : Array Oper} {rest : List Oper} {o : Oper} {a : Act} {w1 w2 : World} {t : TypeId} {Q : Exit → Act → World → Prop} (hgd : o.guard = none) (s x : Operand)
    (ho : o.op = .call { callee := .builtin .append, args := #[s, x], argTypes := #[22, 22] }) (B : Nat) (u v : Value) (rs : List (List UInt8)) (p q : Value) (r : List UInt8) (hs : a.eval s = v) (h : TwT w1 B u v rs) (up : Up w1 w2) (hln : Ln w2 B p q r)
    (c : Nat) (hx : a.eval x = .slice (some ⟨w2.heap.size, 0, none⟩) 1 c) (hn : rs.length < 1099511627776) (hB : B ≤ w1.heap.size)
    (hk : ∀ v' w', TwH w' B u v' rs p q r → Below B w2 w' → wpList Try.prog ops Q rest (a.put o.dst v') w') : wpList Try.prog ops Q (o :: rest) a (w2.alloc (.cells #[q] t)) := by
  obtain ⟨xs, ys, h1, h2, h3, h4, h5, h6⟩ := h
  have up2 : Up w1 (w2.alloc (.cells #[q] t)) := up.alloc _
  have up3 : Up w2 (w2.alloc (.cells #[q] t)) := (Up.refl w2).alloc _
  have hq1 : q.oneCell' = true := by obtain ⟨g, _, rfl, _⟩ := hln; rfl
  have hB2 : B ≤ w2.heap.size := Nat.le_trans hB up.size
  have hcell := cells_new w2 t [q] 0 q rfl
  rw [add_plain] at hcell
  refine wpList_appT hgd s x ho B v ys q hq1 hs (h2.up up2) _ c hx hcell (by omega) (by simp; omega) ?_
  intro v' w' g1 g2 g3 g4
  have hk2 : Kt 23 w2 w' := (Kt.up up3).trans (Kt.grown (h2.up up2) g2)
  refine hk v' w' ⟨xs, ys, (h1.up up2).kept g2 (fun g hg e => h5 g hg e), g1, h3, h4, ?_, hln.kt hk2 (by decide), fun j r hr => ?_⟩ (((Below.refl B w2).alloc hB2 _).trans g3)
  · intro g hg e
    rcases g4 g e with e1 | e1
    · exact h5 g hg e1
    · have := (World.ownsRow.lt (h1.up up2) g hg).2
      omega
  · obtain ⟨p, q, e1, e2, l⟩ := h6 j r hr
    exact ⟨p, q, e1, e2, l.kt ((Kt.up up).trans hk2) (by decide)⟩
theorem twH_own {ops : Array Oper} {rest : List Oper} {o : Oper} {a : Act} {w : World} {t : TypeId} {Q : Exit → Act → World → Prop} (hgd : o.guard = none) (s x : Operand)
    (ho : o.op = .call { callee := .builtin .append, args := #[s, x], argTypes := #[22, 22] }) (B : Nat) (u v : Value) (rs : List (List UInt8)) (p q : Value) (r : List UInt8) (hs : a.eval s = u) (h : TwH w B u v rs p q r)
    (c : Nat) (hx : a.eval x = .slice (some ⟨w.heap.size, 0, none⟩) 1 c) (hn : rs.length < 1099511627776) (hB : B ≤ w.heap.size)
    (hk : ∀ u' w', TwT w' B u' v (rs ++ [r]) → Below B w w' → wpList Try.prog ops Q rest (a.put o.dst u') w') : wpList Try.prog ops Q (o :: rest) a (w.alloc (.cells #[p] t)) := by
  obtain ⟨xs, ys, h1, h2, h3, h4, h5, hln, h6⟩ := h
  have up3 : Up w (w.alloc (.cells #[p] t)) := (Up.refl w).alloc _
  have hp1 : p.oneCell' = true := by obtain ⟨g, rfl, _, _⟩ := hln; rfl
  have hcell := cells_new w t [p] 0 p rfl
  rw [add_plain] at hcell
  refine wpList_appT hgd s x ho B u xs p hp1 hs (h1.up up3) _ c hx hcell (by omega) (by simp; omega) ?_
  intro u' w' g1 g2 g3 g4
  have hk2 : Kt 23 w w' := (Kt.up up3).trans (Kt.grown (h1.up up3) g2)
  refine hk u' w' ⟨xs ++ [p], ys ++ [q], g1, (h2.up up3).kept g2 (fun g hg e => h5 g e hg), by simp [h3], by simp [h4], ?_, fun j r' hr => ?_⟩ (((Below.refl B w).alloc hB _).trans g3)
  · intro g hg e
    rcases g4 g hg with e1 | e1
    · exact h5 g e1 e
    · have := (World.ownsRow.lt (h2.up up3) g e).2
      omega
  · rcases Nat.lt_or_ge j rs.length with hj | hj
    · rw [List.getElem?_append_left hj] at hr
      obtain ⟨p, q, e1, e2, l⟩ := h6 j r' hr
      exact ⟨p, q, by rw [List.getElem?_append_left (by omega)]; exact e1, by rw [List.getElem?_append_left (by omega)]; exact e2, l.kt hk2 (by decide)⟩
    · rw [List.getElem?_append_right hj] at hr
      have hj0 : j - rs.length = 0 := by
        rcases Nat.eq_zero_or_pos (j - rs.length) with e | e
        · exact e
        · rw [List.getElem?_eq_none (by simp; omega)] at hr; cases hr
      rw [hj0] at hr
      simp only [List.getElem?_cons_zero, Option.some.injEq] at hr
      subst hr
      refine ⟨p, q, ?_, ?_, hln.kt hk2 (by decide)⟩
      · rw [List.getElem?_append_right (by omega), show j - xs.length = 0 by omega]; rfl
      · rw [List.getElem?_append_right (by omega), show j - ys.length = 0 by omega]; rfl
end Go.Proofs.Ytngoedhddjakhaa
