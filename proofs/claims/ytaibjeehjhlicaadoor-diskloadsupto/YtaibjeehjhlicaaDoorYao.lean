import Derived.Test.YtaibjeehjhlicaaDoorYan
namespace Go.Proofs.YtaibjeehjhlicaaDoor
open Go.RowKit Go.Shelf TextNum ModNum
theorem lsd_perm {a b : List FL} (h : a.Perm b) : lsd a = lsd b := List.Perm.sum_nat (h.map _)
/-- behind Create, Remove, Rename -/
def crS (s : DD) (nm : ByteArray) (F bp b2 : Nat) (vC vLo : Value) : DD := { s with nM := s.nM + 1, dm := s.dm.put (kS nm) (fd F), vC := vC, vLo := vLo, chs := s.chs ++ [⟨0, nm, nm, F, bp, b2⟩], nf := drp s.nf nm.data.toList ++ [(nm.data.toList, fnew F)], of := s.of ++ gone s.nf nm.data.toList }
def rmS (s : DD) (nm : ByteArray) (b2 : Nat) (vC vLo : Value) : DD := { s with dm := s.dm.del (kS nm), vC := vC, vLo := vLo, chs := s.chs ++ [⟨1, nm, nm, 0, b2, b2⟩], nf := drp s.nf nm.data.toList, of := s.of ++ gone s.nf nm.data.toList }
def rnS (s : DD) (nm tm : ByteArray) (f : FL) (b1 b2 : Nat) (vC vLo : Value) : DD := { s with nM := s.nM + 1, dm := (s.dm.del (kS nm)).put (kS tm) (fd f.b), vC := vC, vLo := vLo, chs := s.chs ++ [⟨2, nm, tm, 0, b1, b2⟩], nf := drp (drp s.nf nm.data.toList) tm.data.toList ++ [(tm.data.toList, f)], of := s.of ++ gone (drp s.nf nm.data.toList) tm.data.toList }
theorem crS_perm {s : DD} {nm : ByteArray} {F bp b2 : Nat} {vC vLo : Value} (nd : (s.nf.map (·.1)).Nodup) : (fls (crS s nm F bp b2 vC vLo)).Perm (fnew F :: fls s) := by
  have h := drp_perm (l := nm.data.toList) nd
  show ((drp s.nf nm.data.toList ++ [(nm.data.toList, fnew F)]).map (·.2) ++ (s.of ++ gone s.nf nm.data.toList)).Perm (fnew F :: (s.nf.map (·.2) ++ s.of))
  rw [List.map_append, List.map_cons, List.map_nil, List.append_assoc]
  refine (List.perm_middle (l₁ := (drp s.nf nm.data.toList).map (·.2)) (a := fnew F) (l₂ := s.of ++ gone s.nf nm.data.toList)).trans (List.Perm.cons _ ?_)
  refine (List.Perm.append_left _ List.perm_append_comm).trans ?_
  rw [← List.append_assoc]
  exact h.append_right _
theorem rmS_perm {s : DD} {nm : ByteArray} {b2 : Nat} {vC vLo : Value} (nd : (s.nf.map (·.1)).Nodup) : (fls (rmS s nm b2 vC vLo)).Perm (fls s) := by
  have h := drp_perm (l := nm.data.toList) nd
  show ((drp s.nf nm.data.toList).map (·.2) ++ (s.of ++ gone s.nf nm.data.toList)).Perm (s.nf.map (·.2) ++ s.of)
  refine (List.Perm.append_left _ List.perm_append_comm).trans ?_
  rw [← List.append_assoc]
  exact h.append_right _
theorem rnS_perm {s : DD} {nm tm : ByteArray} {f : FL} {b1 b2 : Nat} {vC vLo : Value} (nd : (s.nf.map (·.1)).Nodup) (hg : gone s.nf nm.data.toList = [f]) : (fls (rnS s nm tm f b1 b2 vC vLo)).Perm (fls s) := by
  have h := drp_perm (l := nm.data.toList) nd
  have h2 := drp_perm (l := tm.data.toList) (drp_nd (l := nm.data.toList) nd)
  rw [hg] at h
  show ((drp (drp s.nf nm.data.toList) tm.data.toList ++ [(tm.data.toList, f)]).map (·.2) ++ (s.of ++ gone (drp s.nf nm.data.toList) tm.data.toList)).Perm (s.nf.map (·.2) ++ s.of)
  rw [List.map_append, List.map_cons, List.map_nil, List.append_assoc]
  refine (List.perm_middle (l₁ := (drp (drp s.nf nm.data.toList) tm.data.toList).map (·.2)) (a := f) (l₂ := s.of ++ gone (drp s.nf nm.data.toList) tm.data.toList)).trans ?_
  refine (List.Perm.cons f (l₂ := (drp s.nf nm.data.toList).map (·.2) ++ s.of) ((List.Perm.append_left _ List.perm_append_comm).trans ?_)).trans ?_
  · rw [← List.append_assoc]
    exact h2.append_right _
  · refine List.Perm.trans ?_ (h.append_right _)
    rw [List.append_assoc]
    exact List.perm_middle.symm
theorem DOk.named? {w : World} {B D T : Nat} {s : DD} (h : DOk w B D T s) {l : List UInt8} : (l ∈ s.nf.map (·.1) ∧ Maps.has s.dm (.string l) = true) ∨ (l ∉ s.nf.map (·.1) ∧ Maps.has s.dm (.string l) = false) := by
  by_cases hl : l ∈ s.nf.map (·.1)
  · exact .inl ⟨hl, (h.isn.has l).2 hl⟩
  · exact .inr ⟨hl, by
      cases hh : Maps.has s.dm (.string l) with
      | false => rfl
      | true => exact absurd ((h.isn.has l).1 hh) hl⟩
theorem mem_fls_nf {s : DD} {l : List UInt8} {f : FL} (h : (l, f) ∈ s.nf) : f ∈ fls s := List.mem_append_left _ (List.mem_map.2 ⟨_, h, rfl⟩)
/-- the file of a name: its cells -/
theorem DOk.file {w : World} {B D T : Nat} {s : DD} (h : DOk w B D T s) {l : List UInt8} {f : FL} (hf : (l, f) ∈ s.nf) : ∃ an cn, f.vn = .slice an f.nb.length cn ∧ At w f.b 51 [.slice an f.nb.length cn, f.vl, f.vo] := by
  have hk := h.fok f (mem_fls_nf hf)
  obtain ⟨an, cn, hv, _⟩ := Ow.sb hk.now
  exact ⟨an, cn, hv, hv ▸ hk.file⟩
theorem snoc_row {w : World} {B e n : Nat} {v x : Value} {xs ys : List Value} (h : w.ownsRow B e 1 v (n + 1) (xs ++ [x])) (hy : ys = xs ++ [x]) (hn : ys.length = n + 1) : w.ownsRow B e 1 v ys.length ys := by
  rw [hn, hy]; exact h
end Go.Proofs.YtaibjeehjhlicaaDoor
