import Derived.Test.YtngoedhddjakhaaRx
namespace Go.Proofs.Ytngoedhddjakhaa
open Go.RowKit Go.Shelf TextNum TileNum
theorem LT.by {w w' : World} {B : Nat} {v : Value} {ls : List (List UInt8)} {row : Option Nat} (h : LT w B v ls) (hg : w.grownBy w' row) (hr : ∀ g, row = some g → g < B) : LT w' B v ls := by
  obtain ⟨xs, h1, h2, h3, h4⟩ := h
  refine ⟨xs, h1.kept hg (fun g hg' e => ?_), h2, fun j r hjr => ?_, h4⟩
  · have := (World.ownsRow.lt h1 g hg').1
    have := hr g e
    omega
  · obtain ⟨u, e, o⟩ := h3 j r hjr
    refine ⟨u, e, o.kept hg (fun g hg' e => ?_)⟩
    have := (own_lt o hg').1
    have := hr g e
    omega
/-- the lists of a list of lists as values: apart, between two numbers -/
structure XS (B N : Nat) (v : Value) (xs : List Value) : Prop where
  ap : ∀ (i j : Nat) (x y : Value), xs[i]? = some x → xs[j]? = some y → i ≠ j → ∀ g, x.ownBlock = some g → y.ownBlock ≠ some g
  el : ∀ (i : Nat) (x : Value) (g : Nat), xs[i]? = some x → x.ownBlock = some g → B ≤ g ∧ g < N ∧ v.ownBlock ≠ some g
  rw : ∀ g, v.ownBlock = some g → B ≤ g ∧ g < N
/-- the lists from number i on are one's own yet -/
def XW (w : World) (B : Nat) (v : Value) (xs : List Value) (ns : List Nat) (i : Nat) : Prop := OwnT w B v xs ∧ xs.length = ns.length ∧ ∀ (t n : Nat), i ≤ t → ns[t]? = some n → ∃ x l, xs[t]? = some x ∧ l.length = n ∧ Own w B x l
theorem LT.xs {w : World} {B : Nat} {v : Value} {ls : List (List UInt8)} (h : LT w B v ls) : ∃ xs, XS B w.heap.size v xs ∧ XW w B v xs (ls.map List.length) 0 := by
  obtain ⟨xs, h1, h2, h3, h4⟩ := h
  refine ⟨xs, ⟨h4, fun i x g hx hg => ?_, fun g hg => World.ownsRow.lt h1 g hg⟩, h1, by rw [List.length_map]; exact h2, fun t n _ hn => ?_⟩
  · have hi : i < ls.length := by have := (List.getElem?_eq_some_iff.1 hx).1; omega
    obtain ⟨u, e, o⟩ := h3 i _ (List.getElem?_eq_getElem hi)
    rw [hx] at e
    cases e
    have hb := own_lt o hg
    refine ⟨hb.1, hb.2, fun e => ?_⟩
    rcases h1.2 with ⟨rfl, _⟩ | ⟨gl, cap, cur2, rfl, hbg, hgl, _⟩
    · cases e
    · have e1 : gl = g := Option.some.inj e
      subst e1
      rcases o.2 with ⟨rfl, _⟩ | ⟨g2, cap2, cur3, rfl, _, hg2, _⟩
      · cases hg
      · have e2 : g2 = gl := Option.some.inj hg
        subst e2
        rw [hgl] at hg2
        cases hg2
  · rw [List.getElem?_map, Option.map_eq_some_iff] at hn
    obtain ⟨r, hr, rfl⟩ := hn
    obtain ⟨u, e, o⟩ := h3 t r hr
    exact ⟨u, r, e, rfl, o⟩
theorem XW.up {w w' : World} {B : Nat} {v : Value} {xs : List Value} {ns : List Nat} {i : Nat} (h : XW w B v xs ns i) (u : Up w w') : XW w' B v xs ns i :=
  ⟨h.1.up u, h.2.1, fun t n ht hn => by obtain ⟨x, l, e, el, o⟩ := h.2.2 t n ht hn; exact ⟨x, l, e, el, o.below u⟩⟩
theorem XW.mono {w : World} {B : Nat} {v : Value} {xs : List Value} {ns : List Nat} {i j : Nat} (h : XW w B v xs ns i) (hij : i ≤ j) : XW w B v xs ns j :=
  ⟨h.1, h.2.1, fun t n ht hn => h.2.2 t n (by omega) hn⟩
/-- one list's block changes: those behind it stay -/
theorem XW.by {w w' : World} {B N : Nat} {v : Value} {xs : List Value} {ns : List Nat} {i : Nat} {x : Value} (h : XW w B v xs ns i) (hs : XS B N v xs) (hx : xs[i]? = some x) (hg : w.grownBy w' x.ownBlock) : XW w' B v xs ns (i + 1) := by
  refine ⟨h.1.kept hg (fun g hv e => (hs.el i x g hx e).2.2 hv), h.2.1, fun t n ht hn => ?_⟩
  obtain ⟨y, l, e, el, o⟩ := h.2.2 t n (by omega) hn
  exact ⟨y, l, e, el, o.kept hg (fun g hy e2 => hs.ap i t x y hx e (by omega) g e2 hy)⟩
/-- another block changes: all stay -/
theorem XW.other {w w' : World} {B N : Nat} {v : Value} {xs : List Value} {ns : List Nat} {i : Nat} {row : Option Nat} (h : XW w B v xs ns i) (hs : XS B N v xs) (hg : w.grownBy w' row) (hr : ∀ g, row = some g → N ≤ g) : XW w' B v xs ns i := by
  refine ⟨h.1.kept hg (fun g hv e => ?_), h.2.1, fun t n ht hn => ?_⟩
  · have := (hs.rw g hv).2
    have := hr g e
    omega
  · obtain ⟨y, l, e, el, o⟩ := h.2.2 t n ht hn
    refine ⟨y, l, e, el, o.kept hg (fun g hy e2 => ?_)⟩
    have := (hs.el t y g e hy).2.1
    have := hr g e2
    omega
/-- a byte is written -/
theorem XW.store {w : World} {B N : Nat} {v : Value} {xs : List Value} {ns : List Nat} (h : XW w B v xs ns 0) (hs : XS B N v xs) {i n : Nat} (hi : ns[i]? = some n) {j : Nat} (hj : j < n) (x : UInt8) :
    ∃ gl cl' g c b, v = .slice (some ⟨gl, 0, none⟩) ns.length cl' ∧ w.cell? ⟨gl, i, none⟩ = some (.slice (some ⟨g, 0, none⟩) n c) ∧ B ≤ g ∧ g < N ∧ w.cell? ⟨g, j, none⟩ = some (.int .u8 b) ∧ w.frozen? ⟨g, j, none⟩ = false ∧ XW (w.setCell ⟨g, j, none⟩ (.int .u8 (x.toNat : Int))) B v xs ns 0 := by
  obtain ⟨y, l, e, rfl, o⟩ := h.2.2 i n (Nat.zero_le _) hi
  obtain ⟨g, c, rfl, hB, hc, hf, _, o2⟩ := o.store hj x
  have hb := hs.el i _ g e rfl
  have hrow := h.1
  rcases h.1.2 with ⟨rfl, e0⟩ | ⟨gl, cap, cur2, rfl, hbg, hgl, hnc, _⟩
  · have := (List.getElem?_eq_some_iff.1 e).1
    omega
  · have hcl := World.ownsRow.cells hrow (g := gl) rfl i _ e
    rw [add_plain, Nat.zero_add] at hcl
    have hsw := grown_set w ⟨g, j, none⟩ (.int .u8 (x.toNat : Int))
    refine ⟨gl, cap, g, c, _, by rw [h.2.1], hcl, hB, hb.2.1, hc, hf, hrow.kept hsw (fun g' hv e' => ?_), h.2.1, fun t n' _ hn => ?_⟩
    · have : g = g' := Option.some.inj e'
      subst this
      exact hb.2.2 hv
    · by_cases hti : t = i
      · subst hti
        rw [hi] at hn
        cases hn
        exact ⟨_, _, e, by rw [List.length_set], o2⟩
      · obtain ⟨y', l', e', el', o'⟩ := h.2.2 t n' (Nat.zero_le _) hn
        refine ⟨y', l', e', el', o'.kept hsw (fun g' hy e2 => ?_)⟩
        have : g = g' := Option.some.inj e2
        subst this
        exact hs.ap t i y' _ e' e hti g hy rfl
/-- the list of a number -/
theorem XW.get {w : World} {B : Nat} {v : Value} {xs : List Value} {ns : List Nat} {i n : Nat} (h : XW w B v xs ns i) (hi : ns[i]? = some n) : ∃ gl cl' a c l, v = .slice (some ⟨gl, 0, none⟩) ns.length cl' ∧ w.cell? ⟨gl, i, none⟩ = some (.slice a n c) ∧ xs[i]? = some (.slice a n c) ∧ l.length = n ∧ Own w B (.slice a n c) l := by
  obtain ⟨y, l, e, el, o⟩ := h.2.2 i n (Nat.le_refl _) hi
  obtain ⟨a, c, rfl⟩ := o.len
  have hrow := h.1
  rcases h.1.2 with ⟨rfl, e0⟩ | ⟨gl, cap, cur2, rfl, hbg, hgl, hnc, _⟩
  · have := (List.getElem?_eq_some_iff.1 e).1
    omega
  · have hcl := World.ownsRow.cells hrow (g := gl) rfl i _ e
    rw [add_plain, Nat.zero_add] at hcl
    rw [el] at hcl e o
    exact ⟨gl, cap, a, c, l, by rw [h.2.1], hcl, e, el, o⟩
/-- a list is let go -/
theorem OwnT.nil {w : World} {B : Nat} {v : Value} {xs : List Value} (h : OwnT w B v xs) {i : Nat} (hi : i < xs.length) : ∃ gl c u, v = .slice (some ⟨gl, 0, none⟩) xs.length c ∧ w.cell? ⟨gl, i, none⟩ = some u ∧ w.frozen? ⟨gl, i, none⟩ = false ∧ B ≤ gl ∧ OwnT (w.setCell ⟨gl, i, none⟩ (.slice none 0 0)) B v (xs.set i (.slice none 0 0)) := by
  have h0 := h
  rcases h.2 with ⟨rfl, e⟩ | ⟨g, cap, cur, rfl, hbg, hg, hnc, hcm, hcs, htake⟩
  · omega
  · have hc := World.ownsRow.cells h0 (g := g) rfl i _ (List.getElem?_eq_getElem hi)
    rw [add_plain, Nat.zero_add] at hc
    refine ⟨g, cap, _, rfl, hc, by simp [World.frozen?, hg], hbg, ?_⟩
    have h1 := heap_setCell_same w g i _ 23 (.slice none 0 0) hg
    refine ⟨by simp, .inr ⟨g, cap, _, by rw [List.length_set], hbg, h1, by rw [List.length_set]; exact hnc, hcm, by simpa using hcs, ?_⟩⟩
    rw [Nat.mul_one, List.length_set] at *
    simp only [Array.toList_setIfInBounds, List.take_set, htake]
end Go.Proofs.Ytngoedhddjakhaa
