import Derived.Test.YtngoedhddjakhaaRy
namespace Go.Proofs.Ytngoedhddjakhaa
open Go.RowKit Go.Shelf TextNum TileNum
/-- a list of such lists of one's own -/
def OwnK (w : World) (B : Nat) (v : Value) (xs : List Value) : Prop := w.ownsRow B 22 1 v xs.length xs
theorem Try.infoSsl : (Try.prog.info? 22).map (fun i => (i.zero, i.size, i.bytes)) = some (some (.slice none 0 0), 1, 24) := by kernel_rfl
theorem OwnK.up {w w' : World} {B : Nat} {v : Value} {xs : List Value} (h : OwnK w B v xs) (u : Up w w') : OwnK w' B v xs := by
  refine ⟨h.1, ?_⟩
  rcases h.2 with h | ⟨g, cap, cur, e, hb, hg, r⟩
  · exact .inl h
  · refine .inr ⟨g, cap, cur, e, hb, ?_, r⟩
    rw [u.block g (Array.getElem?_eq_some_iff.1 hg).1]; exact hg
theorem run_app_K {w : World} {B : Nat} {v : Value} {xs : List Value} (ty : TypeId) (hown : OwnK w B v xs) (u : Value) (hu1 : u.oneCell' = true) (ad : Addr) (c : Nat) (hx : w.cell? ad = some u) (hn : xs.length < 1099511627776) (hB : B ≤ w.heap.size) :
    ∃ v' w', (Builtin.append_ #[50, 50] ty #[v, .slice (some ad) 1 c]).run Try.prog w = .ok v' w' ∧ OwnK w' B v' (xs ++ [u]) ∧ w.grownBy w' v.ownBlock ∧ Below B w w' ∧ ∀ g, v'.ownBlock = some g → v.ownBlock = some g ∨ w.heap.size ≤ g := by
  obtain ⟨i0, hi, hz0, hz1, hz2⟩ := info_parts Try.infoSsl
  have hadd0 : ad.add 0 = ad := by obtain ⟨b, o, sp⟩ := ad; unfold Addr.add; split <;> simp_all
  obtain ⟨v', w', hr, ho, hg, _⟩ := run_append_own (P := Try.prog) w B 50 ty 22 i0 (.slice none 0 0) 1 24 Try.underlying50 hi hz0 hz1 hz2 rfl (by decide) v xs.length xs hown ad 1 c [u] rfl (fun j y hj => by
    match j, hj with
    | 0, hj => simp at hj; rw [hadd0, hx, hj]) (fun y hy => by simp at hy; subst hy; exact hu1) (by unfold maxLen; omega) (by omega) hB
  have hcl : ∀ j y, ([u] : List Value)[j]? = some y → w.cell? (ad.add j) = some y := fun j y hj => by
    match j, hj with
    | 0, hj => simp at hj; rw [hadd0, hx, hj]
  have h1' : ∀ y, y ∈ ([u] : List Value) → y.oneCell' = true := fun y hy => by simp at hy; subst hy; exact hu1
  refine ⟨v', w', hr, ?_, hg, (Below.refl B w).grown hg hB (fun k hk => (World.ownsRow.lt hown k hk).1), ?_⟩
  · unfold OwnK
    rw [List.length_append]
    exact ho
  · have ht := Try.underlying50
    rcases hown.2 with ⟨rfl, hn0⟩ | ⟨g, cap, cur, rfl, hbg, hgg, hnc, hcm, hcs, htake⟩
    · have h2 := run_append_nil (P := Try.prog) w 50 ty 22 i0 _ ht hi hz0 ad 1 c [u] (by rw [hz1]; rfl) hcl (by decide) (by decide) (by rw [hz2]; decide)
      rw [h2] at hr
      injection hr with hv hw
      subst hw hv
      intro g hg
      injection hg with hg
      exact .inr (Nat.le_of_eq hg)
    · by_cases hroom : xs.length + 1 ≤ cap
      · have h2 := run_append_room (P := Try.prog) w 50 ty 22 i0 ht hi g xs.length cap cur hgg ad 1 c [u] (by rw [hz1]; rfl) hcl h1' hroom (by rw [hz1, hcs]; simp; omega)
        rw [h2] at hr
        injection hr with hv hw
        subst hw hv
        exact fun g hg => .inl hg
      · have holds : ∀ j x, xs[j]? = some x → w.cell? ((⟨g, 0, none⟩ : Addr).add j) = some x := World.ownsRow.cells hown (g := g) rfl
        have h2 := run_append_grow (P := Try.prog) w 50 ty 22 i0 _ ht hi hz0 ⟨g, 0, none⟩ xs.length cap xs (by rw [hz1, Nat.mul_one]) holds ad 1 c [u] (by rw [hz1]; rfl) hcl (by omega) (by omega) (growslice_fits (by omega) (by rw [hz2]; omega))
        rw [h2] at hr
        injection hr with hv hw
        subst hw hv
        intro g hg
        injection hg with hg
        exact .inr (Nat.le_of_eq hg)
theorem wpList_appK {ops : Array Oper} {rest : List Oper} {o : Oper} {a : Act} {w : World} {Q : Exit → Act → World → Prop} (hgd : o.guard = none) (s x : Operand)
    (ho : o.op = .call { callee := .builtin .append, args := #[s, x], argTypes := #[50, 50] }) (B : Nat) (v : Value) (xs : List Value) (u : Value) (hu1 : u.oneCell' = true) (hs : a.eval s = v) (hown : OwnK w B v xs)
    (ad : Addr) (c : Nat) (hx : a.eval x = .slice (some ad) 1 c) (hc : w.cell? ad = some u) (hn : xs.length < 1099511627776) (hB : B ≤ w.heap.size)
    (h : ∀ v' w', OwnK w' B v' (xs ++ [u]) → w.grownBy w' v.ownBlock → Below B w w' → (∀ g, v'.ownBlock = some g → v.ownBlock = some g ∨ w.heap.size ≤ g) → wpList Try.prog ops Q rest (a.put o.dst v') w') : wpList Try.prog ops Q (o :: rest) a w := by
  refine wpList_plain hgd fun K hK => ?_
  obtain ⟨v', w', hr, h2, h3, h4, h5⟩ := run_app_K o.type hown u hu1 ad c hc hn hB
  unfold Oper.wp execOp
  simp only [ho, resolve, invoke, builtin, Sem.run_bind, Sem.run_pure, Result.andThen_ok, List.map_toArray, List.map_cons, List.map_nil, hs, hx, hr]
  exact hK _ _ (h v' w' h2 h3 h4 h5)
theorem OwnK.kept {w w' : World} {B : Nat} {v : Value} {xs : List Value} {row : Option Nat} (h : OwnK w B v xs) (hg : w.grownBy w' row) (hne : ∀ g, v.ownBlock = some g → row ≠ some g) : OwnK w' B v xs := by
  refine World.ownsRow.kept h hg ?_
  rcases hb : v.ownBlock with _ | b
  · exact .inl rfl
  · exact .inr (fun e => hne b hb e.symm)
theorem OwnK.lt {w : World} {B : Nat} {v : Value} {xs : List Value} (h : OwnK w B v xs) {g : Nat} (hg : v.ownBlock = some g) : B ≤ g ∧ g < w.heap.size := World.ownsRow.lt h g hg
theorem OwnK.get {w : World} {B : Nat} {v : Value} {xs : List Value} (h : OwnK w B v xs) {i : Nat} {u : Value} (hi : xs[i]? = some u) : ∃ g c, v = .slice (some ⟨g, 0, none⟩) xs.length c ∧ w.cell? ⟨g, i, none⟩ = some u := by
  have h0 := h
  rcases h.2 with ⟨rfl, e⟩ | ⟨g, cap, cur, rfl, _⟩
  · have := (List.getElem?_eq_some_iff.1 hi).1
    omega
  · have := World.ownsRow.cells h0 (g := g) rfl i u hi
    rw [add_plain, Nat.zero_add] at this
    exact ⟨g, cap, rfl, this⟩
theorem OwnK.len {w : World} {B : Nat} {v : Value} {xs : List Value} (h : OwnK w B v xs) : ∃ a c, v = .slice a xs.length c := by
  rcases h.2 with ⟨rfl, e⟩ | ⟨g, cap, cur, rfl, _⟩
  · exact ⟨none, 0, by rw [e]⟩
  · exact ⟨_, _, rfl⟩
/-- the mark of a number -/
def bt (t : Nat) : UInt8 := UInt8.ofNat t
theorem bt_nat {t : Nat} (h : t < 256) : ((bt t).toNat : Int) = (t : Int) := by simp [bt]; omega
/-- what was marked: the list of marks, and each pair of lists -/
def MK (w : World) (S : Nat) (m : Value) (xs : List Value) (ns : List Nat) (bs : List (Nat × Value)) : Prop :=
  OwnK w S m (bs.map fun p => .slice (some ⟨p.1, 0, none⟩) 2 2) ∧ ∀ (t : Nat) (p : Nat × Value), bs[t]? = some p → ∃ x n, xs[t]? = some x ∧ ns[t]? = some n ∧ Two w p.1 x p.2 (bt t) n (n + 1) ∧ S ≤ p.1 ∧ (∀ g, p.2.ownBlock = some g → x.ownBlock = some g ∨ S ≤ g) ∧ ∀ g, m.ownBlock = some g → g ≠ p.1 ∧ p.2.ownBlock ≠ some g
theorem mK_nil (w : World) (S : Nat) (xs : List Value) (ns : List Nat) : MK w S (.slice none 0 0) xs ns [] := ⟨World.ownsRow_nil w S 22 1, fun t p h => by simp at h⟩
theorem MK.up {w w' : World} {S : Nat} {m : Value} {xs : List Value} {ns : List Nat} {bs : List (Nat × Value)} (h : MK w S m xs ns bs) (u : Up w w') : MK w' S m xs ns bs :=
  ⟨h.1.up u, fun t p hp => by obtain ⟨x, n, e1, e2, tw, r⟩ := h.2 t p hp; exact ⟨x, n, e1, e2, tw.up u, r⟩⟩
/-- a list's block, or the row's, changes: what was marked stays -/
theorem MK.by {w w' : World} {N S : Nat} {m : Value} {xs : List Value} {ns : List Nat} {bs : List (Nat × Value)} {row : Option Nat} (h : MK w S m xs ns bs) (hNS : N ≤ S) (hg : w.grownBy w' row) (hr : ∀ g, row = some g → g < N) (hne : ∀ (t : Nat) (x : Value) (g : Nat), t < bs.length → xs[t]? = some x → x.ownBlock = some g → row ≠ some g) : MK w' S m xs ns bs := by
  refine ⟨h.1.kept hg (fun g hm e => ?_), fun t p hp => ?_⟩
  · have := (h.1.lt hm).1
    have := hr g e
    omega
  · obtain ⟨x, n, e1, e2, tw, hS, hv2, hm⟩ := h.2 t p hp
    have ht : t < bs.length := (List.getElem?_eq_some_iff.1 hp).1
    refine ⟨x, n, e1, e2, tw.by hg (fun e => ?_) (fun g hx e => hne t x g ht e1 hx e) (fun g hg2 e => ?_), hS, hv2, hm⟩
    · have := hr _ e
      omega
    · rcases hv2 g hg2 with h3 | h3
      · exact hne t x g ht e1 h3 e
      · have := hr g e
        omega
/-- one more is marked -/
theorem wpList_appMK {ops : Array Oper} {rest : List Oper} {o : Oper} {a : Act} {w : World} {ty : TypeId} {Q : Exit → Act → World → Prop} (hgd : o.guard = none) (s x : Operand)
    (ho : o.op = .call { callee := .builtin .append, args := #[s, x], argTypes := #[50, 50] }) (S : Nat) (m : Value) (xs : List Value) (ns : List Nat) (bs : List (Nat × Value)) (b : Nat) (v2 y : Value) (n : Nat) (hs : a.eval s = m) (h : MK w S m xs ns bs)
    (hy : xs[bs.length]? = some y) (hn : ns[bs.length]? = some n) (htw : Two w b y v2 (bt bs.length) n (n + 1)) (hSb : S ≤ b) (hv2 : ∀ g, v2.ownBlock = some g → y.ownBlock = some g ∨ S ≤ g) (hm : ∀ g, m.ownBlock = some g → g ≠ b ∧ v2.ownBlock ≠ some g) (hyS : ∀ g, y.ownBlock = some g → g < S)
    (hxS : ∀ (t : Nat) (x : Value) (g : Nat), xs[t]? = some x → x.ownBlock = some g → g < S)
    (c : Nat) (hx : a.eval x = .slice (some ⟨w.heap.size, 0, none⟩) 1 c) (hnl : bs.length < 1000000) (hB : S ≤ w.heap.size)
    (hk : ∀ m' w', MK w' S m' xs ns (bs ++ [(b, v2)]) → (w.alloc (.cells #[.slice (some ⟨b, 0, none⟩) 2 2] ty)).grownBy w' m.ownBlock → (∀ g, m.ownBlock = some g → S ≤ g) → wpList Try.prog ops Q rest (a.put o.dst m') w') : wpList Try.prog ops Q (o :: rest) a (w.alloc (.cells #[.slice (some ⟨b, 0, none⟩) 2 2] ty)) := by
  have up : Up w (w.alloc (.cells #[.slice (some ⟨b, 0, none⟩) 2 2] ty)) := (Up.refl w).alloc _
  have hcell := cells_new w ty [.slice (some ⟨b, 0, none⟩) 2 2] 0 _ rfl
  rw [add_plain] at hcell
  have hbl : b < w.heap.size := lt_of_cell htw.1
  have hv2l : ∀ g, v2.ownBlock = some g → g < w.heap.size := by
    intro g hg
    obtain ⟨a2, c2, e, _, h2⟩ := htw.2.2.2
    rcases h2 with h2 | ⟨b2, off2, e2, hb2, _⟩
    · simp at h2
    · subst e
      rw [e2] at hg
      cases hg
      exact hb2
  have hold : ∀ (t : Nat) (p : Nat × Value), bs[t]? = some p → p.1 < w.heap.size ∧ ∀ g, p.2.ownBlock = some g → g < w.heap.size := by
    intro t p hp
    obtain ⟨x, n, _, _, tw, _⟩ := h.2 t p hp
    refine ⟨lt_of_cell tw.1, fun g hg => ?_⟩
    obtain ⟨a2, c2, e, _, h2⟩ := tw.2.2.2
    rcases h2 with h2 | ⟨b2, off2, e2, hb2, _⟩
    · simp at h2
    · rw [e, e2] at hg
      cases hg
      exact hb2
  refine wpList_appK hgd s x ho S m _ (.slice (some ⟨b, 0, none⟩) 2 2) rfl hs (h.1.up up) _ c hx hcell (by rw [List.length_map]; omega) (by simp; omega) ?_
  intro m' w' g1 g2 _ g4
  have hmS : ∀ g, m.ownBlock = some g → S ≤ g := fun g hg => (h.1.lt hg).1
  have hm' : ∀ g, m'.ownBlock = some g → m.ownBlock = some g ∨ w.heap.size ≤ g := fun g hg => by
    rcases g4 g hg with e | e
    · exact .inl e
    · rw [alloc_size] at e; exact .inr (by omega)
  refine hk m' w' ⟨by rw [List.map_append]; exact g1, fun t p hp => ?_⟩ g2 hmS
  rcases Nat.lt_or_ge t bs.length with ht | ht
  · rw [List.getElem?_append_left ht] at hp
    obtain ⟨x, n, e1, e2, tw, hS, hv, hmm⟩ := h.2 t p hp
    obtain ⟨o1, o2⟩ := hold t p hp
    refine ⟨x, n, e1, e2, (tw.up up).by g2 (fun e => (hmm _ e).1 rfl) (fun g hx e => ?_) (fun g hg e => (hmm g e).2 hg), hS, hv, fun g hg => ?_⟩
    · have := hxS t x g e1 hx
      have := hmS g e
      omega
    · rcases hm' g hg with e | e
      · exact hmm g e
      · exact ⟨by omega, fun e3 => by have := o2 g e3; omega⟩
  · have ht0 : t = bs.length := by
      have := (List.getElem?_eq_some_iff.1 hp).1
      simp at this
      omega
    subst ht0
    rw [List.getElem?_append_right (Nat.le_refl _), Nat.sub_self] at hp
    simp only [List.getElem?_cons_zero, Option.some.injEq] at hp
    subst hp
    refine ⟨y, n, hy, hn, (htw.up up).by g2 (fun e => (hm _ e).1 rfl) (fun g hx e => ?_) (fun g hg e => (hm g e).2 hg), hSb, hv2, fun g hg => ?_⟩
    · have := hyS g hx
      have := hmS g e
      omega
    · rcases hm' g hg with e | e
      · exact hm g e
      · exact ⟨by show g ≠ b; omega, fun e3 => by have := hv2l g e3; omega⟩
end Go.Proofs.Ytngoedhddjakhaa
