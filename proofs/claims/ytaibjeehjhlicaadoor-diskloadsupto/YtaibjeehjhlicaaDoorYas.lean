import Derived.Test.YtaibjeehjhlicaaDoorYar
namespace Go.Proofs.YtaibjeehjhlicaaDoor
open Go.RowKit Go.Shelf TextNum ModNum
/-- what a write's own error is -/
def wrF (room used n : Nat) (p : Int) (m : Nat) : Int := if p < 0 ∨ 1048576 < p then 1 else if 0 < gro n p m ∧ (room : Int) < used + gro n p m then 123 else 0
theorem usd_split {xs ys : List (List UInt8 × FL)} {l : List UInt8} {f : FL} : usd (xs ++ (l, f) :: ys) = usd xs + usd ys + f.nb.length := by
  rw [usd_append, usd_cons]; simp only; omega
theorem lsd_flS {w : World} {B D T : Nat} {s : DD} (h : DOk w B D T s) {l : List UInt8} {f f' : FL} (hf : (l, f) ∈ s.nf) (t : Nat) : lsd (fls (flS s f.b f' t)) + f.lo.length = lsd (fls s) + f'.lo.length ∧ usd (rpl s.nf f.b f') + f.nb.length = usd s.nf + f'.nb.length ∧ f.nb.length ≤ usd s.nf ∧ f.lo.length ≤ lsd (fls s) := by
  obtain ⟨xs, ys, e, _, hr⟩ := h.split hf
  have h1 : lsd (fls (flS s f.b f' t)) = lsd (xs.map (·.2)) + (f'.lo.length + lsd (ys.map (·.2))) + lsd s.of := by
    show lsd ((rpl s.nf f.b f').map (·.2) ++ s.of) = _
    rw [hr f', lsd_append, List.map_append, List.map_cons, lsd_append, lsd_cons]
  have h2 : lsd (fls s) = lsd (xs.map (·.2)) + (f.lo.length + lsd (ys.map (·.2))) + lsd s.of := by
    unfold fls
    rw [e, lsd_append, List.map_append, List.map_cons, lsd_append, lsd_cons]
  have h3 : usd (rpl s.nf f.b f') = usd xs + usd ys + f'.nb.length := by rw [hr f', usd_split]
  have h4 : usd s.nf = usd xs + usd ys + f.nb.length := by rw [e, usd_split]
  omega
/-- the file behind a write -/
abbrev wtF (f : FL) (p : Nat) (ds : List UInt8) (vn vo vk : Value) (ba bk : Nat) (tn : Int) : FL := { f with vn := vn, vo := vo, nb := wr f.nb p ds, lo := f.lo ++ [⟨p, ds, ba, bk, vk, tn⟩] }
theorem gro_len (nb ds : List UInt8) (p : Nat) (h : ds ≠ []) : ((wr nb p ds).length : Int) = nb.length + gro nb.length p ds.length := by
  rw [wr_len _ _ _ h]
  have : 0 < ds.length := List.length_pos_iff.2 h
  unfold gro
  by_cases hc : ds.length = 0 ∨ (p : Int) + ds.length ≤ nb.length
  · rw [if_pos hc]; omega
  · rw [if_neg hc]; omega
end Go.Proofs.YtaibjeehjhlicaaDoor
