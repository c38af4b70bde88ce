import Derived.Test.YtbdbpmeaiiodgaaDoorTk
namespace Go.Proofs.YtbdbpmeaiiodgaaDoor
open Go.RowKit TextNum
theorem Sl.by {w w' : World} {v : Value} {l : List UInt8} {row : Option Nat} (h : Sl w v l) (hg : w.grownBy w' row) (hr : ∀ r, row = some r → v.ownBlock ≠ some r) : Sl w' v l := by
  obtain ⟨a, c, rfl, hc, h⟩ := h
  refine ⟨a, c, rfl, hc, ?_⟩
  rcases h with h | ⟨b, off, rfl, hb, hcell⟩
  · exact .inl h
  · refine .inr ⟨b, off, rfl, Nat.lt_of_lt_of_le hb hg.size, fun i hi => ?_⟩
    have e := hg.block b hb (fun e => hr b e.symm rfl)
    rw [World.cell?_of_block e]
    exact hcell i hi
theorem Own.by {w w' : World} {B : Nat} {v : Value} {l : List UInt8} {row : Option Nat} (h : Own w B v l) (hg : w.grownBy w' row) (hne : ∀ r, row = some r → r < B) : Own w' B v l := by
  refine World.ownsRow.kept h hg ?_
  rcases hb : v.ownBlock with _ | b
  · exact .inl rfl
  · refine .inr fun e => ?_
    have h1 := (World.ownsRow.lt h b hb).1
    have h2 := hne b e.symm
    omega
theorem append_B {w : World} {B : Nat} {ty : TypeId} {v : Value} {l : List UInt8} (hown : Own w B v l) (y : UInt8) (ad : Addr) (hu : w.cell? ad = some (vb y)) (hn : l.length < 1099511627776) (hB : B ≤ w.heap.size) :
    ∃ v' w', (Builtin.append_ #[22, 22] ty #[v, .slice (some ad) 1 1]).run Tryd.prog w = .ok v' w' ∧ Own w' B v' (l ++ [y]) ∧ w.grownBy w' v.ownBlock ∧ (∀ g, v'.ownBlock = some g → v.ownBlock = some g ∨ w.heap.size ≤ g) ∧ Sl w' v l := by
  obtain ⟨i0, hi, hz0, hz1, hz2⟩ := info_parts Tryd.info8
  have hu' : ∀ j u, [vb y][j]? = some u → w.cell? (ad.add j) = some u := by
    intro j u h
    cases j with
    | zero => simp at h; subst h; rw [show ad.add 0 = ad by simp [Addr.add]]; exact hu
    | succ j => simp at h
  obtain ⟨v', w', hr, ho, hg, _⟩ := run_append_own (P := Tryd.prog) w B 22 ty 5 i0 (.int .u8 0) 1 1 Tryd.underlying22 hi hz0 hz1 hz2 rfl (by decide) v l.length (cb l) hown ad 1 1 [vb y] rfl hu' (by simp [vb, Value.oneCell']) (by unfold maxLen; omega) (by omega) hB
  have ho' : Own w' B v' (l ++ [y]) := by
    unfold Own
    rw [List.length_append, cb_append]
    exact ho
  refine ⟨v', w', hr, ho', hg, ?_⟩
  rcases hown.2 with ⟨rfl, e⟩ | ⟨g0, cap, cur, rfl, hbg, hgg, hnc, hcm, hcs, htake⟩
  · have hl : l = [] := List.eq_nil_of_length_eq_zero e
    subst hl
    refine ⟨fun g hgb => .inr ?_, ⟨none, 0, rfl, Nat.le_refl _, .inl rfl⟩⟩
    have h2 := run_append_nil (P := Tryd.prog) w 22 ty 5 i0 (.int .u8 0) Tryd.underlying22 hi hz0 ad 1 1 [vb y] (by rw [hz1]; rfl) hu' (by decide) (by decide) (by rw [hz2]; decide)
    rw [h2] at hr
    injection hr with hv hw
    subst hv
    injection hgb with hgb
    exact Nat.le_of_eq hgb
  · by_cases hroom : l.length + 1 ≤ cap
    · have h2 := run_append_room (P := Tryd.prog) w 22 ty 5 i0 Tryd.underlying22 hi g0 l.length cap cur hgg ad 1 1 [vb y] (by rw [hz1]; rfl) hu' (by simp [vb, Value.oneCell']) hroom (by rw [hz1, hcs]; simp; omega)
      rw [h2] at hr
      injection hr with hv hw
      subst hv
      refine ⟨fun g hgb => .inl hgb, ⟨_, _, rfl, hnc, .inr ⟨g0, 0, rfl, (World.ownsRow.lt ho g0 rfl).2, fun i hi2 => ?_⟩⟩⟩
      have := World.ownsRow.cells ho (g := g0) rfl i (.int .u8 (l[i].toNat : Int)) (by rw [List.getElem?_append_left (by rw [cb_length]; exact hi2)]; exact cb_get hi2)
      rwa [add_plain] at this
    · have holds : ∀ j x, (cb l)[j]? = some x → w.cell? ((⟨g0, 0, none⟩ : Addr).add j) = some x := World.ownsRow.cells hown (g := g0) rfl
      have h2 := run_append_grow (P := Tryd.prog) w 22 ty 5 i0 (.int .u8 0) Tryd.underlying22 hi hz0 ⟨g0, 0, none⟩ l.length cap (cb l) (by rw [hz1]; exact hown.1) holds ad 1 1 [vb y] (by rw [hz1]; rfl) hu' (by omega) (by omega) (growslice_fits (by omega) (by rw [hz2]; omega))
      rw [h2] at hr
      injection hr with hv hw
      subst hw hv
      refine ⟨fun g hgb => .inr ?_, ?_⟩
      · injection hgb with hgb
        exact Nat.le_of_eq hgb
      · have hsl : Sl w (.slice (some ⟨g0, 0, none⟩) l.length cap) l := Own.sl hown
        exact hsl.up (((Up.refl w).drew).alloc _)
/-- each byte goes up -/
def addn (n : UInt8) (l : List UInt8) : List UInt8 := l.map (· + n)
def part' (n : UInt8) (l : List UInt8) (i : Nat) : List UInt8 := addn n (l.take i) ++ l.drop i
theorem part_len (n : UInt8) (l : List UInt8) (i : Nat) : (part' n l i).length = l.length := by simp [part', addn]; omega
theorem part_get {n : UInt8} {l : List UInt8} {i : Nat} (h : i < l.length) : (part' n l i)[i]'(by rw [part_len]; exact h) = l[i] := by
  have e : (part' n l i)[i]? = l[i]? := by
    unfold part' addn
    rw [List.getElem?_append_right (by simp; omega)]
    simp [Nat.min_eq_left (Nat.le_of_lt h)]
  rw [List.getElem?_eq_getElem (by rw [part_len]; exact h), List.getElem?_eq_getElem h] at e
  exact Option.some.inj e
theorem part_set {n : UInt8} {l : List UInt8} {i : Nat} (h : i < l.length) : (part' n l i).set i (l[i] + n) = part' n l (i + 1) := by
  unfold part' addn
  rw [List.set_append_right _ _ (by simp; omega)]
  simp only [List.length_map, List.length_take, Nat.min_eq_left (Nat.le_of_lt h), Nat.sub_self]
  rw [List.drop_eq_getElem_cons h, List.set_cons_zero, List.take_succ_eq_append_getElem h, List.map_append, List.append_assoc]
  rfl
theorem part_zero (n : UInt8) (l : List UInt8) : part' n l 0 = l := by simp [part', addn]
theorem part_all (n : UInt8) (l : List UInt8) : part' n l l.length = addn n l := by simp [part', addn]
theorem u8_sum (a b : UInt8) : IntKind.u8.wrap ((a.toNat : Int) + (b.toNat : Int)) = ((a + b).toNat : Int) := by
  rw [UInt8.toNat_add]
  simp only [IntKind.wrap, IntKind.signed, IntKind.bits]
  simp
theorem Own.put {w : World} {B g n c : Nat} {l : List UInt8} (h : Own w B (.slice (some ⟨g, 0, none⟩) n c) l) (hn : n = l.length) (j : Nat) (y : UInt8) : Own (w.setCell ⟨g, j, none⟩ (vb y)) B (.slice (some ⟨g, 0, none⟩) n c) (l.set j y) ∧ w.grownBy (w.setCell ⟨g, j, none⟩ (vb y)) (some g) := by
  subst hn
  have := World.ownsRow.stored h j (vb y)
  refine ⟨?_, this.2⟩
  unfold Own
  rw [List.length_set]
  have e : cb (l.set j y) = (cb l).set j (vb y) := by simp [cb, List.map_set, vb]
  rw [e]
  exact this.1
theorem by_trans {a b c : World} {row : Option Nat} (h : a.grownBy b row) (k : b.grownBy c row) : a.grownBy c row :=
  ⟨k.os.trans h.os, k.tape.trans h.tape, k.output.trans h.output, Nat.le_trans h.size k.size, fun i hi hr => (k.block i (Nat.lt_of_lt_of_le hi h.size) hr).trans (h.block i hi hr)⟩
end Go.Proofs.YtbdbpmeaiiodgaaDoor
