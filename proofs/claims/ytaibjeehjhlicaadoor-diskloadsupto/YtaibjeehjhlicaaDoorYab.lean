import Derived.Test.YtaibjeehjhlicaaDoorYai
namespace Go.Proofs.YtaibjeehjhlicaaDoor
open Go.RowKit Go.Shelf TextNum ModNum
theorem Tryd.infoNact2 : (Tryd.prog.info? 126).map (fun i => (i.zero, i.size, i.bytes)) = some (some (.agg #[.nilFunc]), 1, 8) := by kernel_rfl
theorem map_neB {w : World} {M n b : Nat} {D : DataW Unit} {t : TypeId} {cs : List Value} (h : OM w M n D) (k : At w b t cs) : M ≠ b := fun e => by
  subst e
  obtain ⟨es, cl, hb, _⟩ := h
  unfold At at k
  rw [hb] at k
  injection k with k
  cases k
theorem map_ownB {w : World} {M n B m q : Nat} {D : DataW Unit} {e : TypeId} {v : Value} {xs : List Value} (h : OM w M n D) (k : w.ownsRow B e m v q xs) : v.ownBlock ≠ some M := fun hb => by
  obtain ⟨es, cl, hm, _⟩ := h
  rcases k.2 with ⟨rfl, _⟩ | ⟨g, cap, cur, rfl, _, hg, _⟩
  · cases hb
  · obtain rfl : g = M := Option.some.inj hb
    rw [hm] at hg
    injection hg with hg
    cases hg
end Go.Proofs.YtaibjeehjhlicaaDoor
namespace Go.Proofs.YtaibjeehjhlicaaDoor
open Go.RowKit Go.Shelf TextNum ModNum
theorem Tryd.infoPf : (Tryd.prog.info? 52).map (fun i => (i.zero, i.size, i.bytes)) = some (some (.pointer none), 1, 8) := by kernel_rfl
end Go.Proofs.YtaibjeehjhlicaaDoor
namespace Go.Proofs.YtaibjeehjhlicaaDoor
open Go.RowKit Go.Shelf TextNum ModNum
theorem Frs.rfl (w : World) (v : Value) : Frs w v v := fun _ h => .inl h
theorem Frs.low {w w1 : World} {v v' : Value} (h : Frs w1 v v') (k : w.heap.size ≤ w1.heap.size) : Frs w v v' := fun g hg => (h g hg).imp id (fun h => Nat.le_trans k h)
theorem Fr.map {S : Nat → Prop} {w w' : World} {M n : Nat} {dm : DataW Unit} (h : Fr S w w') (k : OM w M n dm) (hS : ¬ S M) : OM w' M n dm := by
  have hl := World.ownsMap.lt k
  obtain ⟨es, cl, hb, r⟩ := k
  exact ⟨es, cl, (h.block M hl hS).trans hb, r⟩
end Go.Proofs.YtaibjeehjhlicaaDoor
namespace Go.Proofs.YtaibjeehjhlicaaDoor
open Go.RowKit Go.Shelf TextNum ModNum
end Go.Proofs.YtaibjeehjhlicaaDoor
