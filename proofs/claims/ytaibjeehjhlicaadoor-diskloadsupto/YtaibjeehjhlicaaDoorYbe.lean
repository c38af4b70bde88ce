import Derived.Test.YtaibjeehjhlicaaDoorYbd
namespace Go.Proofs.YtaibjeehjhlicaaDoor
open Go.RowKit Go.Shelf TextNum ModNum
theorem lsN_all (nf : List (List UInt8 × FL)) : lsN nf [] = srt (nf.map (·.1)) := by
  unfold lsN
  rw [List.filter_eq_self.2]
  intro a _
  rfl
theorem srt_len (xs : List (List UInt8)) : (srt xs).length = xs.length := (srt_perm xs).length_eq
/-- sorted, and each once: rising -/
theorem srt_lt {xs : List (List UInt8)} (nd : xs.Nodup) {i : Nat} (hi : i + 1 < (srt xs).length) : (srt xs)[i] < (srt xs)[i + 1] := by
  have h1 := List.pairwise_iff_getElem.1 (srt_pw xs) i (i + 1) (by omega) hi (by omega)
  have h2 : (srt xs).Nodup := (srt_perm xs).nodup_iff.2 nd
  have h3 := List.pairwise_iff_getElem.1 h2 i (i + 1) (by omega) hi (by omega)
  exact Std.lt_of_le_of_ne h1 h3
theorem srt_mem {xs : List (List UInt8)} {l : List UInt8} : l ∈ srt xs ↔ l ∈ xs := (srt_perm xs).mem_iff
theorem lsN_len (nf : List (List UInt8 × FL)) (p : List UInt8) : (lsN nf p).length = ((srt (nf.map (·.1))).filter fun l => pfx p l).length := by
  unfold lsN
  rw [srt_len]
  exact ((srt_perm _).filter _).length_eq.symm
theorem lsN_pfx {nf : List (List UInt8 × FL)} {p l : List UInt8} (h : l ∈ lsN nf p) : pfx p l = true := (List.mem_filter.1 (srt_mem.1 h)).2
theorem pfx_iff (p x : List UInt8) : pfx p x = true ↔ p.length ≤ x.length ∧ x.take p.length = p := by
  unfold pfx
  rw [List.isPrefixOf_iff_prefix, List.prefix_iff_eq_take]
  constructor
  · intro h
    exact ⟨by rw [h, List.length_take]; omega, h.symm⟩
  · exact fun h => h.2.symm
theorem ext_take (x : List UInt8) (p : ByteArray) : ((⟨x.toArray⟩ : ByteArray).extract 0 p.size).toList = x.take p.size := by
  rw [ByteArray.toList_eq]
  simp [ByteArray.data_extract]
/-- the three ways of a beginning -/
theorem pfx_ways (px : ByteArray) (x : List UInt8) : (pfx px.data.toList x = true ∧ px.size ≤ x.length ∧ (((⟨x.toArray⟩ : ByteArray).extract 0 px.size).toList == px.toList) = true) ∨ (pfx px.data.toList x = false ∧ ((px.size ≤ x.length ∧ (((⟨x.toArray⟩ : ByteArray).extract 0 px.size).toList == px.toList) = false) ∨ ¬ px.size ≤ x.length)) := by
  have hs : px.data.toList.length = px.size := (Go.Lib.size_eq px).symm
  rw [ext_take, ByteArray.toList_eq]
  by_cases h : pfx px.data.toList x = true
  · have h2 := (pfx_iff _ _).1 h
    rw [hs] at h2
    exact .inl ⟨h, h2.1, by rw [beq_iff_eq]; exact h2.2⟩
  · refine .inr ⟨by simpa using h, ?_⟩
    by_cases h3 : px.size ≤ x.length
    · refine .inl ⟨h3, ?_⟩
      rw [beq_eq_false_iff_ne]
      intro h4
      exact h ((pfx_iff _ _).2 (by rw [hs]; exact ⟨h3, h4⟩))
    · exact .inr h3
theorem few_take {Ls : List (List UInt8)} {i : Nat} (hi : i < Ls.length) (p : List UInt8) : ((Ls.take (i + 1)).filter fun l => pfx p l).length = ((Ls.take i).filter fun l => pfx p l).length + (if pfx p Ls[i] = true then 1 else 0) := by
  rw [List.take_succ_eq_append_getElem hi, List.filter_append, List.length_append, List.filter_cons]
  split <;> simp
end Go.Proofs.YtaibjeehjhlicaaDoor
