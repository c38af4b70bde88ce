import Derived.Test.YtngoedhddjakhaaAs
import Derived.Test.YtngoedhddjakhaaJm
namespace Go.Proofs.Ytngoedhddjakhaa
open Go.RowKit TextNum TileNum
theorem lt_of_at {w : World} {k : Nat} {o : Obj} (h : w.heap[k]? = some o) : k < w.heap.size := by
  rcases Nat.lt_or_ge k w.heap.size with h1 | h1
  · exact h1
  · rw [Array.getElem?_eq_none h1] at h; cases h
theorem alloc_new (w : World) (o : Obj) : (w.alloc o).heap[w.heap.size]? = some o := by
  show (w.heap.push o)[w.heap.size]? = _
  simp
theorem alloc_size (w : World) (o : Obj) : (w.alloc o).heap.size = w.heap.size + 1 := by
  show (w.heap.push o).size = _
  simp
/-- what isn't of one type stays -/
def Kt (t : TypeId) (w w' : World) : Prop := ∀ (k : Nat) (cs : Array Value) (u : TypeId) (fz : Nat × Nat), u ≠ t → w.heap[k]? = some (Obj.cells cs u fz) → w'.heap[k]? = some (Obj.cells cs u fz)
theorem Kt.refl (t : TypeId) (w : World) : Kt t w w := fun _ _ _ _ _ h => h
theorem Kt.trans {t : TypeId} {a b c : World} (h : Kt t a b) (k : Kt t b c) : Kt t a c := fun g cs u fz hu hg => k g cs u fz hu (h g cs u fz hu hg)
theorem Kt.up {t : TypeId} {w w' : World} (h : Up w w') : Kt t w w' := fun g cs u fz _ hg => by rw [h.block g (lt_of_at hg)]; exact hg
theorem Kt.grown {w w' : World} {B : Nat} {e : TypeId} {v : Value} {n : Nat} {xs : List Value} {size : Nat} (h : w.ownsRow B e size v n xs) (g : w.grownBy w' v.ownBlock) : Kt e w w' := by
  intro k cs u fz hu hk
  refine (g.block k (lt_of_at hk) ?_).trans hk
  intro he
  rcases h.2 with ⟨rfl, _⟩ | ⟨b, cap, cur, rfl, _, hb, _⟩
  · cases he
  · have : k = b := Option.some.inj he
    subst this
    rw [hb] at hk
    cases hk
    exact hu rfl
theorem Own.kt {w w' : World} {B : Nat} {v : Value} {l : List UInt8} {t : TypeId} (h : Own w B v l) (k : Kt t w w') (ht : 5 ≠ t) : Own w' B v l := by
  refine ⟨h.1, ?_⟩
  rcases h.2 with e | ⟨g, cap, cur, e, hbg, hg, r⟩
  · exact .inl e
  · exact .inr ⟨g, cap, cur, e, hbg, k g _ _ _ ht hg, r⟩
/-- a list that is read is appended to a list of one's own -/
theorem run_app_none {w : World} {v : Value} {B : Nat} {l : List UInt8} {ty : TypeId} {c : Nat} (h : Own w B v l) : (Builtin.append_ #[23, 23] ty #[v, .slice none 0 c]).run Try.prog w = .ok v w := by
  obtain ⟨i0, hi, hz0, hz1, hz2⟩ := info_parts Try.info8
  rcases h.2 with ⟨rfl, h1⟩ | ⟨g, cap, cur, rfl, _, _, hnc, _⟩
  · simp [Builtin.append_, run_underlying Try.underlying23, sizeOf, typeInfo, hi, Builtin.lenOf, Builtin.firstCells]
  · simp [Builtin.append_, run_underlying Try.underlying23, sizeOf, typeInfo, hi, Builtin.lenOf, Builtin.firstCells, hnc, storeCells]
theorem wpList_appSl {ops : Array Oper} {rest : List Oper} {o : Oper} {a : Act} {w : World} {Q : Exit → Act → World → Prop} (hgd : o.guard = none) (s x : Operand)
    (ho : o.op = .call { callee := .builtin .append, args := #[s, x], argTypes := #[23, 23] }) (B : Nat) (v vx : Value) (l m : List UInt8) (hs : a.eval s = v) (hown : Own w B v l)
    (hx : a.eval x = vx) (hm : Sl w vx m) (hn : l.length + m.length ≤ 140737488355328) (hB : B ≤ w.heap.size)
    (h : ∀ v' w', Own w' B v' (l ++ m) → Below B w w' → wpList Try.prog ops Q rest (a.put o.dst v') w') : wpList Try.prog ops Q (o :: rest) a w := by
  obtain ⟨ad, c, rfl, hc, hm⟩ := hm
  cases ad with
  | some ad =>
    refine wpList_app hgd s x ho B v l m hs hown ad c hx ?_ hn hB h
    rcases hm with rfl | ⟨b, off, e, hb, hcell⟩
    · intro j u hj; simp [cb] at hj
    · cases e
      intro j u hj
      have hjl : j < m.length := by have := (List.getElem?_eq_some_iff.1 hj).1; rwa [cb_length] at this
      rw [cb_get hjl] at hj
      rw [add_plain, hcell j hjl]; exact hj
  | none =>
    rcases hm with rfl | ⟨b, off, e, _⟩
    · refine wpList_plain hgd fun K hK => ?_
      have hr := run_app_none (ty := o.type) (c := c) hown
      unfold Oper.wp execOp
      simp only [List.length_nil] at hx
      simp only [ho, resolve, invoke, builtin, Sem.run_bind, Sem.run_pure, Result.andThen_ok, List.map_toArray, List.map_cons, List.map_nil, hs, hx, hr]
      exact hK _ _ (h v w (by rw [List.append_nil]; exact hown) (Below.refl _ _))
    · cases e

/-- a[:k], a[k:] -/
theorem sl_take {w : World} {a : Option Addr} {n c k : Nat} {l : List UInt8} (h : Sl w (.slice a n c) l) (hk : k ≤ l.length) : Sl w (.slice a k c) (l.take k) := by
  obtain ⟨a', c', e, hc, h⟩ := h
  cases e
  refine ⟨a, c, by rw [List.length_take, Nat.min_eq_left hk], by rw [List.length_take]; omega, ?_⟩
  rcases h with rfl | ⟨b, off, rfl, hb, hcell⟩
  · exact .inl (by simp)
  · exact .inr ⟨b, off, rfl, hb, fun i hi => by
      have hi' : i < l.length := by rw [List.length_take] at hi; omega
      rw [hcell i hi', List.getElem_take]⟩
theorem sliced_drop {w : World} {a : Option Addr} {n c k : Nat} {l : List UInt8} (h : Sl w (.slice a n c) l) (hk : k ≤ l.length) : Sl w (sliced a k n c 1) (l.drop k) := by
  obtain ⟨a', c', e, hc, h⟩ := h
  cases e
  unfold sliced
  refine ⟨_, _, by rw [List.length_drop], by rw [List.length_drop]; omega, ?_⟩
  rcases Nat.lt_or_ge k l.length with hlt | hge
  · rcases h with rfl | ⟨b, off, rfl, hb, hcell⟩
    · simp at hlt
    · refine .inr ⟨b, off + k, ?_, hb, fun i hi => ?_⟩
      · rw [if_neg (by omega), Option.map_some, Nat.mul_one, add_plain]
      · rw [List.length_drop] at hi
        rw [Nat.add_assoc, hcell (k + i) (by omega), List.getElem_drop]
  · exact .inl (List.drop_eq_nil_of_le hge)

/-- a list of lists of bytes of one's own -/
def OwnT (w : World) (B : Nat) (v : Value) (xs : List Value) : Prop := w.ownsRow B 23 1 v xs.length xs
theorem Try.infoSl : (Try.prog.info? 23).map (fun i => (i.zero, i.size, i.bytes)) = some (some (.slice none 0 0), 1, 24) := by kernel_rfl
theorem OwnT.up {w w' : World} {B : Nat} {v : Value} {xs : List Value} (h : OwnT w B v xs) (u : Up w w') : OwnT w' B v xs := by
  refine ⟨h.1, ?_⟩
  rcases h.2 with h | ⟨g, cap, cur, e, hb, hg, r⟩
  · exact .inl h
  · refine .inr ⟨g, cap, cur, e, hb, ?_, r⟩
    rw [u.block g (Array.getElem?_eq_some_iff.1 hg).1]; exact hg
theorem OwnT.by {w w' : World} {B : Nat} {v : Value} {xs : List Value} {row : Option Nat} (h : OwnT w B v xs) (hg : w.grownBy w' row) (hr : ∀ r, row = some r → r < B) : OwnT w' B v xs := by
  refine World.ownsRow.kept h hg ?_
  rcases hb : v.ownBlock with _ | b
  · exact .inl rfl
  · refine .inr (fun e => ?_)
    have h1 := hr b e.symm
    have h2 := (World.ownsRow.lt h b hb).1
    omega
theorem OwnT.cell {w : World} {B : Nat} {v : Value} {xs : List Value} (h : OwnT w B v xs) : ∃ a c, v = .slice a xs.length c ∧ ∀ i u, xs[i]? = some u → ∃ g, a = some ⟨g, 0, none⟩ ∧ w.cell? ⟨g, i, none⟩ = some u := by
  have h0 := h
  rcases h.2 with ⟨rfl, hn⟩ | ⟨g, cap, cur, rfl, _⟩
  · have hx : xs = [] := List.length_eq_zero_iff.1 hn
    subst hx
    exact ⟨none, 0, rfl, fun i u h => by simp at h⟩
  · refine ⟨_, cap, rfl, fun i u hu => ⟨g, rfl, ?_⟩⟩
    have := World.ownsRow.cells h0 (g := g) rfl i u hu
    rwa [add_plain, Nat.zero_add] at this
theorem run_app_T {w : World} {B : Nat} {v : Value} {xs : List Value} (ty : TypeId) (hown : OwnT w B v xs) (u : Value) (hu1 : u.oneCell' = true) (ad : Addr) (c : Nat) (hx : w.cell? ad = some u) (hn : xs.length < 1099511627776) (hB : B ≤ w.heap.size) :
    ∃ v' w', (Builtin.append_ #[22, 22] ty #[v, .slice (some ad) 1 c]).run Try.prog w = .ok v' w' ∧ OwnT w' B v' (xs ++ [u]) ∧ w.grownBy w' v.ownBlock ∧ Below B w w' ∧ ∀ g, v'.ownBlock = some g → v.ownBlock = some g ∨ w.heap.size ≤ g := by
  obtain ⟨i0, hi, hz0, hz1, hz2⟩ := info_parts Try.infoSl
  have hadd0 : ad.add 0 = ad := by obtain ⟨b, o, sp⟩ := ad; unfold Addr.add; split <;> simp_all
  obtain ⟨v', w', hr, ho, hg, _⟩ := run_append_own (P := Try.prog) w B 22 ty 23 i0 (.slice none 0 0) 1 24 Try.underlying22 hi hz0 hz1 hz2 rfl (by decide) v xs.length xs hown ad 1 c [u] rfl (fun j y hj => by
    match j, hj with
    | 0, hj => simp at hj; rw [hadd0, hx, hj]) (fun y hy => by simp at hy; subst hy; exact hu1) (by unfold maxLen; omega) (by omega) hB
  have hcl : ∀ j y, ([u] : List Value)[j]? = some y → w.cell? (ad.add j) = some y := fun j y hj => by
    match j, hj with
    | 0, hj => simp at hj; rw [hadd0, hx, hj]
  have h1' : ∀ y, y ∈ ([u] : List Value) → y.oneCell' = true := fun y hy => by simp at hy; subst hy; exact hu1
  refine ⟨v', w', hr, ?_, hg, (Below.refl B w).grown hg hB (fun k hk => (World.ownsRow.lt hown k hk).1), ?_⟩
  · unfold OwnT
    rw [List.length_append]
    exact ho
  · have ht := Try.underlying22
    rcases hown.2 with ⟨rfl, hn0⟩ | ⟨g, cap, cur, rfl, hbg, hgg, hnc, hcm, hcs, htake⟩
    · have h2 := run_append_nil (P := Try.prog) w 22 ty 23 i0 _ ht hi hz0 ad 1 c [u] (by rw [hz1]; rfl) hcl (by decide) (by decide) (by rw [hz2]; decide)
      rw [h2] at hr
      injection hr with hv hw
      subst hw hv
      intro g hg
      injection hg with hg
      exact .inr (Nat.le_of_eq hg)
    · by_cases hroom : xs.length + 1 ≤ cap
      · have h2 := run_append_room (P := Try.prog) w 22 ty 23 i0 ht hi g xs.length cap cur hgg ad 1 c [u] (by rw [hz1]; rfl) hcl h1' hroom (by rw [hz1, hcs]; simp; omega)
        rw [h2] at hr
        injection hr with hv hw
        subst hw hv
        exact fun g hg => .inl hg
      · have holds : ∀ j x, xs[j]? = some x → w.cell? ((⟨g, 0, none⟩ : Addr).add j) = some x := World.ownsRow.cells hown (g := g) rfl
        have h2 := run_append_grow (P := Try.prog) w 22 ty 23 i0 _ ht hi hz0 ⟨g, 0, none⟩ xs.length cap xs (by rw [hz1, Nat.mul_one]) holds ad 1 c [u] (by rw [hz1]; rfl) hcl (by omega) (by omega) (growslice_fits (by omega) (by rw [hz2]; omega))
        rw [h2] at hr
        injection hr with hv hw
        subst hw hv
        intro g hg
        injection hg with hg
        exact .inr (Nat.le_of_eq hg)
theorem wpList_appT {ops : Array Oper} {rest : List Oper} {o : Oper} {a : Act} {w : World} {Q : Exit → Act → World → Prop} (hgd : o.guard = none) (s x : Operand)
    (ho : o.op = .call { callee := .builtin .append, args := #[s, x], argTypes := #[22, 22] }) (B : Nat) (v : Value) (xs : List Value) (u : Value) (hu1 : u.oneCell' = true) (hs : a.eval s = v) (hown : OwnT w B v xs)
    (ad : Addr) (c : Nat) (hx : a.eval x = .slice (some ad) 1 c) (hc : w.cell? ad = some u) (hn : xs.length < 1099511627776) (hB : B ≤ w.heap.size)
    (h : ∀ v' w', OwnT w' B v' (xs ++ [u]) → w.grownBy w' v.ownBlock → Below B w w' → (∀ g, v'.ownBlock = some g → v.ownBlock = some g ∨ w.heap.size ≤ g) → wpList Try.prog ops Q rest (a.put o.dst v') w') : wpList Try.prog ops Q (o :: rest) a w := by
  refine wpList_plain hgd fun K hK => ?_
  obtain ⟨v', w', hr, h2, h3, h4, h5⟩ := run_app_T o.type hown u hu1 ad c hc hn hB
  unfold Oper.wp execOp
  simp only [ho, resolve, invoke, builtin, Sem.run_bind, Sem.run_pure, Result.andThen_ok, List.map_toArray, List.map_cons, List.map_nil, hs, hx, hr]
  exact hK _ _ (h v' w' h2 h3 h4 h5)
theorem wp_appT {o : Oper} {a : Act} {w : World} {K : Act → World → Prop} {Q : Exit → Act → World → Prop} (s x : Operand)
    (ho : o.op = .call { callee := .builtin .append, args := #[s, x], argTypes := #[22, 22] }) (B : Nat) (v : Value) (xs : List Value) (u : Value) (hu1 : u.oneCell' = true) (hs : a.eval s = v) (hown : OwnT w B v xs)
    (ad : Addr) (c : Nat) (hx : a.eval x = .slice (some ad) 1 c) (hc : w.cell? ad = some u) (hn : xs.length < 1099511627776) (hB : B ≤ w.heap.size)
    (h : ∀ v' w', OwnT w' B v' (xs ++ [u]) → w.grownBy w' v.ownBlock → Below B w w' → (∀ g, v'.ownBlock = some g → v.ownBlock = some g ∨ w.heap.size ≤ g) → K (a.put o.dst v') w') : Oper.wp Try.prog o a w K Q := by
  obtain ⟨v', w', hr, h2, h3, h4, h5⟩ := run_app_T o.type hown u hu1 ad c hc hn hB
  unfold Oper.wp execOp
  simp only [ho, resolve, invoke, builtin, Sem.run_bind, Sem.run_pure, Result.andThen_ok, List.map_toArray, List.map_cons, List.map_nil, hs, hx, hr]
  exact h v' w' h2 h3 h4 h5
/-- a list of lists of bytes that is read -/
def SlT (w : World) (v : Value) (rs : List (List UInt8)) : Prop := ∃ a c, v = .slice a rs.length c ∧ rs.length ≤ c ∧ (rs = [] ∨ ∃ b off, a = some ⟨b, off, none⟩ ∧ b < w.heap.size ∧ ∀ i (h : i < rs.length), ∃ u, w.cell? ⟨b, off + i, none⟩ = some u ∧ Sl w u rs[i])
theorem SlT.up {w w' : World} {v : Value} {rs : List (List UInt8)} (h : SlT w v rs) (k : Up w w') : SlT w' v rs := by
  obtain ⟨a, c, e, hc0, h⟩ := h
  refine ⟨a, c, e, hc0, ?_⟩
  rcases h with h | ⟨b, off, e2, hb, hc⟩
  · exact .inl h
  · refine .inr ⟨b, off, e2, Nat.lt_of_lt_of_le hb k.size, fun i hi => ?_⟩
    obtain ⟨u, h1, h2⟩ := hc i hi
    exact ⟨u, k.cell h1, h2.up k⟩
theorem slT_nil (w : World) : SlT w (.slice none 0 0) [] := ⟨none, 0, rfl, Nat.le_refl _, .inl rfl⟩
theorem SlT.get {w : World} {v : Value} {rs : List (List UInt8)} (h : SlT w v rs) {i : Nat} (hi : i < rs.length) : ∃ b off c a k, v = .slice (some ⟨b, off, none⟩) rs.length c ∧ b < w.heap.size ∧ w.cell? ⟨b, off + i, none⟩ = some (.slice a rs[i].length k) ∧ Sl w (.slice a rs[i].length k) rs[i] := by
  obtain ⟨a, c, rfl, hc0, h⟩ := h
  rcases h with rfl | ⟨b, off, rfl, hb, hc⟩
  · simp at hi
  · obtain ⟨u, h1, h2⟩ := hc i hi
    have h3 := h2
    obtain ⟨a, k, rfl, _⟩ := h2
    exact ⟨b, off, c, a, k, rfl, hb, h1, h3⟩
/-- a list of lists of one's own, each list of one's own too, all in blocks apart -/
def LT (w : World) (B : Nat) (v : Value) (rs : List (List UInt8)) : Prop := ∃ xs : List Value, OwnT w B v xs ∧ xs.length = rs.length ∧ (∀ (j : Nat) (r : List UInt8), rs[j]? = some r → ∃ u, xs[j]? = some u ∧ Own w B u r) ∧ ∀ (i j : Nat) (x y : Value), xs[i]? = some x → xs[j]? = some y → i ≠ j → ∀ g, x.ownBlock = some g → y.ownBlock ≠ some g
theorem lT_nil (w : World) (B : Nat) : LT w B (.slice none 0 0) [] := ⟨[], World.ownsRow_nil w B 23 1, rfl, fun j r h => by simp at h, fun i j x y h => by simp at h⟩
theorem LT.up {w w' : World} {B : Nat} {v : Value} {rs : List (List UInt8)} (h : LT w B v rs) (k : Up w w') : LT w' B v rs := by
  obtain ⟨xs, h1, h2, h3, h4⟩ := h
  exact ⟨xs, h1.up k, h2, fun j r hr => by obtain ⟨u, e, o⟩ := h3 j r hr; exact ⟨u, e, o.below k⟩, h4⟩
theorem LT.sl {w : World} {B : Nat} {v : Value} {rs : List (List UInt8)} (h : LT w B v rs) : SlT w v rs := by
  obtain ⟨xs, h1, h2, h3, h4⟩ := h
  have h1' := h1
  rcases h1.2 with ⟨rfl, e⟩ | ⟨g, cap, cur, rfl, hbg, hg, hnc, _⟩
  · have hl : rs = [] := List.eq_nil_of_length_eq_zero (by omega)
    subst hl
    exact slT_nil w
  · refine ⟨_, cap, by rw [h2], by omega, .inr ⟨g, 0, rfl, lt_of_at hg, fun i hi => ?_⟩⟩
    obtain ⟨u, e, o⟩ := h3 i _ (List.getElem?_eq_getElem hi)
    have := World.ownsRow.cells h1' (g := g) rfl i _ e
    rw [add_plain] at this
    exact ⟨u, this, o.sl⟩
end Go.Proofs.Ytngoedhddjakhaa
