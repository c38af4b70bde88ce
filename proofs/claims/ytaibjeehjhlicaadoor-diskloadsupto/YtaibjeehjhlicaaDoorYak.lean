import Derived.Test.YtaibjeehjhlicaaDoorYaj
namespace Go.Proofs.YtaibjeehjhlicaaDoor
open Go.RowKit Go.Shelf TextNum ModNum
theorem FOk.lasted {w w1 : World} {B : Nat} {f : FL} (h : FOk w B f) {l : LW} {v6 : Value} (o : Ow w1 B v6 (wr f.lb l.p l.ds)) (g : w.grownBy w1 f.vl.ownBlock) (fz : Frs w f.vl v6) :
    FOk (w1.setCell ⟨f.b, 1, none⟩ v6) B { f with vl := v6, lb := wr f.lb l.p l.ds } ∧ Fr (fun k => k = f.b ∨ f.vl.ownBlock = some k) w (w1.setCell ⟨f.b, 1, none⟩ v6) := by
  have lvn := World.ownsRow.lt h.now
  have hnv : f.vn.ownBlock = none ∨ f.vn.ownBlock ≠ f.vl.ownBlock := by
    cases hq : f.vn.ownBlock with
    | none => exact .inl rfl
    | some k => exact .inr (fun e => h.apart k hq e.symm)
  have hol : f.vo.ownBlock = none ∨ f.vo.ownBlock ≠ f.vl.ownBlock := by
    cases hq : f.vo.ownBlock with
    | none => exact .inl rfl
    | some k => exact .inr (fun e => own_apart h.loose h.last (by decide) hq e.symm)
  have f1 := h.file.by g (own_ne h.last h.file (by decide))
  have n1 := World.ownsRow.kept h.now g hnv
  have o1 := World.ownsRow.kept h.loose g hol
  have gF := grown_at w1 f.b 1 v6
  have hl2 : ∀ l' ∈ f.lo, l'.vk.ownBlock = none ∨ l'.vk.ownBlock ≠ f.vl.ownBlock := fun l' hl' => by
    cases hq : l'.vk.ownBlock with
    | none => exact .inl rfl
    | some k => exact .inr (fun e => ((h.each l' hl').ap k hq).2 e.symm)
  refine ⟨⟨h.low, f1.set 1 v6, World.ownsRow.kept n1 gF (.inr (own_ne n1 f1 (by decide))), World.ownsRow.kept o gF (.inr (own_ne o f1 (by decide))), ?_, World.ownsRow.kept o1 gF (.inr (own_ne o1 f1 (by decide))), ?_⟩, ?_⟩
  · intro k hk e
    rcases fz k e with h1 | h1
    · exact h.apart k hk h1
    · have := (lvn k hk).2; omega
  · intro l' hl'
    have he := h.each l' hl'
    have p1 := he.pa.by g (own_ne h.last he.pa (by decide))
    have p2 := he.pk.by g (own_ne h.last he.pk (by decide))
    have p3 := World.ownsRow.kept he.own g (hl2 l' hl')
    refine ⟨p1.by gF (fun e => f1.ne p1 (by decide) (Option.some.inj e)), p2.by gF (fun e => f1.ne p2 (by decide) (Option.some.inj e)), World.ownsRow.kept p3 gF (.inr (own_ne p3 f1 (by decide))), fun k hk => ⟨(he.ap k hk).1, fun e => ?_⟩, he.len⟩
    rcases fz k e with h1 | h1
    · exact (he.ap k hk).2 h1
    · have := (World.ownsRow.lt he.own k hk).2; omega
  · exact ((Fr.refl (fun k => k = f.b ∨ f.vl.ownBlock = some k) w).by g (fun k hk => .inl (.inr hk))).by gF (fun k hk => .inl (.inl (Option.some.inj hk).symm))
theorem FOk.dsk {w w1 : World} {B D : Nat} {dc : List Value} {f : FL} (h : FOk w B f) (hD : At w D 58 dc) (g : w.grownBy w1 (some D)) : FOk w1 B f :=
  ⟨h.low, h.file.by g (fun e => hD.ne h.file (by decide) (Option.some.inj e)), World.ownsRow.kept h.now g (.inr (own_ne h.now hD (by decide))), World.ownsRow.kept h.last g (.inr (own_ne h.last hD (by decide))), h.apart, World.ownsRow.kept h.loose g (.inr (own_ne h.loose hD (by decide))), fun l hl =>
    have he := h.each l hl
    ⟨he.pa.by g (fun e => hD.ne he.pa (by decide) (Option.some.inj e)), he.pk.by g (fun e => hD.ne he.pk (by decide) (Option.some.inj e)), World.ownsRow.kept he.own g (.inr (own_ne he.own hD (by decide))), he.ap, he.len⟩⟩
/-- the loose writes are dropped -/
theorem FOk.drop {w : World} {B : Nat} {f : FL} (h : FOk w B f) : FOk (w.setCell ⟨f.b, 2, none⟩ (.slice none 0 0)) B { f with vo := .slice none 0 0, lo := [] } := by
  have gF := grown_at w f.b 2 (.slice none 0 0)
  exact ⟨h.low, h.file.set 2 _, World.ownsRow.kept h.now gF (.inr (own_ne h.now h.file (by decide))), World.ownsRow.kept h.last gF (.inr (own_ne h.last h.file (by decide))), h.apart, World.ownsRow_nil _ _ _ _, fun l hl => by cases hl⟩
/-- the lasting bytes behind the first loose writes -/
def lay (lb : List UInt8) (lo : List LW) : List UInt8 := lo.foldl (fun acc l => wr acc l.p l.ds) lb
theorem lay_take {lo : List LW} {i : Nat} (hi : i < lo.length) (lb : List UInt8) : lay lb (lo.take (i + 1)) = wr (lay lb (lo.take i)) lo[i].p lo[i].ds := by
  unfold lay
  rw [List.take_succ_eq_append_getElem hi, List.foldl_append]
  rfl
theorem wr_le {lb ds : List UInt8} {p N : Nat} (h : lb.length ≤ N) (k : p + ds.length ≤ N) : (wr lb p ds).length ≤ N := by
  by_cases h0 : ds = []
  · unfold wr
    rw [if_pos h0]; exact h
  · rw [wr_len _ _ _ h0]; omega
end Go.Proofs.YtaibjeehjhlicaaDoor
