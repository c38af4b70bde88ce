import Derived.Test.YtaibjeehjhlicaaDoorYao
namespace Go.Proofs.YtaibjeehjhlicaaDoor
open Go.RowKit Go.Shelf TextNum ModNum
theorem DOk.box {w w' : World} {B D T b : Nat} {s : DD} {nm : ByteArray} (h : DOk w B D T s) (q9 : Fr (Sn D s) w w') (h2 : At w b 9 [.string nm]) : At w' b 9 [.string nm] := q9.at h2 (fun hk => by
  have t2 := h2.tg
  rcases hk with hk | hk | hk | hk
  · rw [hk, h.disk.tg] at t2; exact absurd t2 (by decide)
  · rw [hk, map_tg h.mnow] at t2; cases t2
  · rw [own_tg h.rowC hk] at t2; exact absurd t2 (by decide)
  · rw [own_tg h.rowL hk] at t2; exact absurd t2 (by decide))
theorem gone_le {nf : List (List UInt8 × FL)} {l : List UInt8} (nd : (nf.map (·.1)).Nodup) : (gone nf l).length ≤ 1 := by
  by_cases hl : l ∈ nf.map (·.1)
  · obtain ⟨xs, f, ys, e, _⟩ := nf_split hl nd
    rw [e] at nd ⊢
    rw [(gone_split nd).1]; simp
  · rw [gone_no hl]; simp
theorem gone_of {nf : List (List UInt8 × FL)} {l : List UInt8} {f : FL} (nd : (nf.map (·.1)).Nodup) (hf : (l, f) ∈ nf) : gone nf l = [f] := by
  have hl : l ∈ nf.map (·.1) := List.mem_map.2 ⟨_, hf, rfl⟩
  obtain ⟨xs, g, ys, e, _⟩ := nf_split hl nd
  rw [e] at nd
  have h1 := (gone_split nd).1
  rw [← e] at h1
  have h2 : f ∈ gone nf l := by
    unfold gone
    exact List.mem_map.2 ⟨(l, f), List.mem_filter.2 ⟨hf, by simp⟩, rfl⟩
  rw [h1] at h2 ⊢
  rw [List.mem_singleton.1 h2]
end Go.Proofs.YtaibjeehjhlicaaDoor
namespace Go.Proofs.YtaibjeehjhlicaaDoor
open Go.RowKit Go.Shelf TextNum ModNum
end Go.Proofs.YtaibjeehjhlicaaDoor
