import Derived.Test.YtaibjeehjhlicaaDoorYag
namespace Go.Proofs.YtaibjeehjhlicaaDoor
open Go.RowKit Go.Shelf TextNum ModNum
theorem lcs_get : ∀ (lo : List LW) {i j : Nat} (hi : i < lo.length), j < 3 → (lcs lo)[3 * i + j]? = (lwc lo[i].tn lo[i].ds.length lo[i].ba lo[i].bk)[j]?
  | l :: r, 0, j, _, hj => by
    show (lwc l.tn l.ds.length l.ba l.bk ++ lcs r)[3 * 0 + j]? = _
    rw [Nat.mul_zero, Nat.zero_add, List.getElem?_append_left (by simpa [lwc] using hj)]
    rfl
  | l :: r, i + 1, j, hi, hj => by
    have ih := lcs_get r (i := i) (j := j) (by simpa using hi) hj
    show (lwc l.tn l.ds.length l.ba l.bk ++ lcs r)[3 * (i + 1) + j]? = _
    rw [List.getElem?_append_right (by simp [lwc]; omega), show 3 * (i + 1) + j - (lwc l.tn l.ds.length l.ba l.bk).length = 3 * i + j by simp [lwc]; omega, ih]
    rfl
theorem loose_cells {w : World} {B : Nat} {vo : Value} {lo : List LW} (h : w.ownsRow B 123 3 vo lo.length (lcs lo)) {i : Nat} (hi : i < lo.length) :
    ∃ g c, vo = .slice (some ⟨g, 0, none⟩) lo.length c ∧ lo.length ≤ c ∧ w.cell? ⟨g, 3 * i, none⟩ = some (.int .i64 lo[i].tn) ∧ w.cell? ⟨g, 3 * i + 1, none⟩ = some (.int .i64 (lo[i].ds.length : Int)) ∧
      w.cell? ⟨g, 3 * i + 2, none⟩ = some (.func (.func 0) #[] #[.pointer (some ⟨lo[i].ba, 0, none⟩), .pointer (some ⟨lo[i].bk, 0, none⟩)]) := by
  have hc := fun g hg => World.ownsRow.cells h (g := g) hg
  rcases h.2 with ⟨_, h0⟩ | ⟨g, cap, cur, rfl, _, _, hnc, _, _, _⟩
  · omega
  · refine ⟨g, cap, rfl, hnc, ?_, ?_, ?_⟩
    · have := hc g rfl (3 * i + 0) _ ((lcs_get lo hi (j := 0) (by omega)).trans rfl)
      rw [Addr.add_lit] at this
      simpa using this
    · have := hc g rfl (3 * i + 1) _ ((lcs_get lo hi (j := 1) (by omega)).trans rfl)
      rw [Addr.add_lit] at this
      simpa using this
    · have := hc g rfl (3 * i + 2) _ ((lcs_get lo hi (j := 2) (by omega)).trans rfl)
      rw [Addr.add_lit] at this
      simpa using this
/-- the lasting bytes were turned alone -/
theorem Inv.lasted {w w1 : World} {B D M F T : Nat} {s : DS} (h : Inv w B D M F T s) {l : LW} (hl : l ∈ s.lo) {v6 : Value} (o : Ow w1 B v6 (wr s.lb l.p l.ds)) (g : w.grownBy w1 s.vl.ownBlock) (f : Frs w s.vl v6) :
    Inv (w1.setCell ⟨F, 1, none⟩ v6) B D M F T { s with vl := v6, lb := wr s.lb l.p l.ds } ∧ Fr (Sd D F s) w (w1.setCell ⟨F, 1, none⟩ v6) := by
  have lvn := World.ownsRow.lt h.now
  have lvl := World.ownsRow.lt h.last
  have hnv : s.vn.ownBlock = none ∨ s.vn.ownBlock ≠ s.vl.ownBlock := by
    cases hq : s.vn.ownBlock with
    | none => exact .inl rfl
    | some k => exact .inr (fun e => h.apart k hq e.symm)
  have hol : s.vo.ownBlock = none ∨ s.vo.ownBlock ≠ s.vl.ownBlock := by
    cases hq : s.vo.ownBlock with
    | none => exact .inl rfl
    | some k => exact .inr (fun e => own_apart h.loose h.last (by decide) hq e.symm)
  have d1 := h.disk.by g (own_ne h.last h.disk (by decide))
  have f1 := h.file.by g (own_ne h.last h.file (by decide))
  have n1 := World.ownsRow.kept h.now g hnv
  have o1 := World.ownsRow.kept h.loose g hol
  have hM : s.vl.ownBlock ≠ some M := map_own h.map h.last
  have m1 : OM w1 M 1 (D1 F) := World.ownsMap.kept h.map g (fun e => hM e.symm)
  have gF := grown_at w1 F 1 v6
  have hl2 : ∀ l' ∈ s.lo, l'.vk.ownBlock = none ∨ l'.vk.ownBlock ≠ s.vl.ownBlock := fun l' hl' => by
    cases hq : l'.vk.ownBlock with
    | none => exact .inl rfl
    | some k => exact .inr (fun e => ((h.each l' hl').ap k hq).2 e.symm)
  refine ⟨⟨?_, h.low, ?_, d1.by gF (fun e => f1.ne d1 (by decide) (Option.some.inj e)), World.ownsMap.kept m1 gF (fun e => map_ne m1 f1 (Option.some.inj e)), f1.set 1 v6, World.ownsRow.kept n1 gF (.inr (own_ne n1 f1 (by decide))),
    World.ownsRow.kept o gF (.inr (own_ne o f1 (by decide))), ?_, World.ownsRow.kept o1 gF (.inr (own_ne o1 f1 (by decide))), ?_, h.room, h.nbl, ?_, h.num⟩, ?_⟩
  · obtain ⟨m, hm⟩ := h.ml
    refine ⟨m, gF.cell (g.cell hm (fun e => ?_)) (fun e => ?_)⟩
    · have h1 := (lvl _ e.symm).1
      have h2 := h.low.1
      have h3 : B ≤ 0 := h1
      omega
    · have h1 : 0 = F := Option.some.inj e
      have h2 := h.low
      omega
  · exact Nat.le_trans h.hB (Nat.le_trans g.size gF.size)
  · intro k hk e
    rcases f k e with h1 | h1
    · exact h.apart k hk h1
    · have := (lvn k hk).2; omega
  · intro l' hl'
    have he := h.each l' hl'
    have p1 := he.pa.by g (own_ne h.last he.pa (by decide))
    have p2 := he.pk.by g (own_ne h.last he.pk (by decide))
    have p3 := World.ownsRow.kept he.own g (hl2 l' hl')
    refine ⟨p1.by gF (fun e => f1.ne p1 (by decide) (Option.some.inj e)), p2.by gF (fun e => f1.ne p2 (by decide) (Option.some.inj e)), World.ownsRow.kept p3 gF (.inr (own_ne p3 f1 (by decide))), fun k hk => ⟨(he.ap k hk).1, fun e => ?_⟩, he.len⟩
    rcases f k e with h1 | h1
    · exact (he.ap k hk).2 h1
    · have := (World.ownsRow.lt he.own k hk).2; omega
  · show (wr s.lb l.p l.ds).length ≤ 1099511627776
    have hlen := (h.each l hl).len
    have hlb := h.lbl
    by_cases hd : l.ds = []
    · unfold wr
      rw [if_pos hd]; exact hlb
    · rw [wr_len _ _ _ hd]; omega
  · exact ((Fr.refl (Sd D F s) w).by g (fun k hk => .inl (.inr (.inr (.inr (.inl hk)))))).by gF (fun k hk => .inl (.inr (.inl (Option.some.inj hk).symm)))
theorem Inv.settled {w : World} {B D M F T : Nat} {s : DS} (h : Inv w B D M F T s) :
    Inv ((w.setCell ⟨D, 7, none⟩ (.int .i64 0)).drew.setCell ⟨F, 2, none⟩ (.slice none 0 0)) B D M F T { s with vo := .slice none 0 0, lo := [] } ∧ Fr (Sd D F s) w ((w.setCell ⟨D, 7, none⟩ (.int .i64 0)).drew.setCell ⟨F, 2, none⟩ (.slice none 0 0)) := by
  have g1 := grown_up (grown_at w D 7 (.int .i64 0)) (Up.refl _).drew
  have d1 := (h.disk.set 7 (.int .i64 0)).up (Up.refl _).drew
  generalize (w.setCell ⟨D, 7, none⟩ (.int .i64 0)).drew = w1 at *
  have f1 := h.file.by g1 (fun e => h.disk.ne h.file (by decide) (Option.some.inj e))
  have n1 := World.ownsRow.kept h.now g1 (.inr (own_ne h.now h.disk (by decide)))
  have l1 := World.ownsRow.kept h.last g1 (.inr (own_ne h.last h.disk (by decide)))
  have m1 : OM w1 M 1 (D1 F) := World.ownsMap.kept h.map g1 (fun e => map_ne h.map h.disk (Option.some.inj e))
  have gF := grown_at w1 F 2 (.slice none 0 0)
  have hnum := h.num
  refine ⟨⟨?_, h.low, Nat.le_trans h.hB (Nat.le_trans g1.size gF.size), d1.by gF (fun e => f1.ne d1 (by decide) (Option.some.inj e)), World.ownsMap.kept m1 gF (fun e => map_ne m1 f1 (Option.some.inj e)), f1.set 2 _, World.ownsRow.kept n1 gF (.inr (own_ne n1 f1 (by decide))),
    World.ownsRow.kept l1 gF (.inr (own_ne l1 f1 (by decide))), h.apart, World.ownsRow_nil _ _ _ _, fun l hl => (by cases hl), h.room, h.nbl, h.lbl, ?_⟩, ?_⟩
  · obtain ⟨m, hm⟩ := h.ml
    refine ⟨m, gF.cell (g1.cell hm (fun e => ?_)) (fun e => ?_)⟩
    · have h1 : 0 = D := Option.some.inj e
      have h2 := h.low
      omega
    · have h1 : 0 = F := Option.some.inj e
      have h2 := h.low
      omega
  · simp only [List.length_nil]
    omega
  · exact ((Fr.refl (Sd D F s) w).by g1 (fun k hk => .inl (.inl (Option.some.inj hk).symm))).by gF (fun k hk => .inl (.inr (.inl (Option.some.inj hk).symm)))
end Go.Proofs.YtaibjeehjhlicaaDoor
