import Derived.Test.YtfhdddhapjdocaaDoorKc
import Derived.Test.YtfhdddhapjdocaaDoorFo
/-! what is written reads back: no model in it -/
namespace Go.Proofs.YtfhdddhapjdocaaDoor
open Go.RowKit Go.Shelf TextNum ModNum
theorem lt_no (i : Nat) : lt i ≠ 32 ∧ lt i ≠ 10 := by
  rcases Nat.lt_or_ge i 64 with h | h
  · have : ∀ j : Fin 64, lt j.1 ≠ 32 ∧ lt j.1 ≠ 10 := by decide +kernel
    exact this ⟨i, h⟩
  · have : lt i = 0 := by unfold lt; rw [List.getD_eq_getElem?_getD, List.getElem?_eq_none (by show 64 ≤ i; exact h)]; rfl
    rw [this]; decide
theorem b64E_no : ∀ x : List UInt8, ∀ c ∈ b64E x, c ≠ 32 ∧ c ≠ 10
  | [], c, h => by cases h
  | [x], c, h => by
    simp only [b64E, g1, List.mem_cons, List.not_mem_nil, or_false] at h
    rcases h with rfl | rfl | rfl | rfl
    · exact lt_no _
    · exact lt_no _
    · decide
    · decide
  | [x, y], c, h => by
    simp only [b64E, g2, List.mem_cons, List.not_mem_nil, or_false] at h
    rcases h with rfl | rfl | rfl | rfl
    · exact lt_no _
    · exact lt_no _
    · exact lt_no _
    · decide
  | x :: y :: z :: r, c, h => by
    simp only [b64E, g3, List.cons_append, List.nil_append, List.mem_cons] at h
    rcases h with rfl | rfl | rfl | rfl | h
    · exact lt_no _
    · exact lt_no _
    · exact lt_no _
    · exact lt_no _
    · exact b64E_no r c h
theorem sumT_no (x : List UInt8) : ∀ c ∈ sumT x, c ≠ 32 ∧ c ≠ 10 := by
  intro c h
  simp only [sumT, List.mem_cons] at h
  rcases h with rfl | rfl | rfl | h
  · decide
  · decide
  · decide
  · exact b64E_no x c h
theorem psm_back {x : List UInt8} (hx : x.length = 32) : psm (sumT x) = (x, 0) := by
  have hb : b64R (b64E x) = (x, 0) := b64R_some (by rw [b64E_length, hx]; decide) (b64_back x)
  unfold psm
  have hd : (sumT x).drop 3 = b64E x := rfl
  rw [hd, hb]
  exact if_pos ⟨by simp [pfx, sumT], rfl, hx⟩
theorem maj_no {p m : List UInt8} (h : maj p = some m) : ∀ c ∈ p, c ≠ 32 ∧ c ≠ 10 ∧ c ≠ 64 := by
  intro c hc
  have := al_mem (maj_len h).2 hc
  refine ⟨?_, ?_, ?_⟩ <;> (rintro rfl; exact this (by decide))
theorem ver_no {p : List UInt8} {q : Prt} (h : ver p = some q) : ∀ c ∈ p, c ≠ 32 ∧ c ≠ 10 ∧ c ≠ 64 := by
  intro c hc
  have := ver_ch h c hc
  refine ⟨?_, ?_, ?_⟩ <;> (rintro rfl; rcases this with h | h; exact h (by decide); cases h)
theorem gom_no : ∀ c ∈ GOM, c ≠ 32 ∧ c ≠ 10 := by decide
theorem back_key {p v : List UInt8} (h : fte p v = 0) : pkE (keyT p v) = 0 ∧ pkP (keyT p v) = p ∧ pkV (keyT p v) = v := by
  obtain ⟨m, q, hm, hq, _⟩ := fte_ok h
  have hp : (64 : UInt8) ∉ p := fun hc => (maj_no hm _ hc).2.2 rfl
  have hv : (64 : UInt8) ∉ v := fun hc => (ver_no hq _ hc).2.2 rfl
  have hk : keyT p v = p ++ 64 :: v := if_pos h
  have h0 : pkE (keyT p v) = 0 := by
    unfold pkE
    rw [hk, ahd_app hp, bhd_app hp, if_neg]
    · exact h
    · rintro (h | h)
      · exact h (by simp)
      · exact hv h
  refine ⟨h0, ?_, ?_⟩
  · exact (if_pos h0).trans (by rw [hk, ahd_app hp])
  · exact (if_pos h0).trans (by rw [hk, bhd_app hp])
theorem tw_back {a b c : List UInt8} (ha : 32 ∉ a) (hb : 32 ∉ b) (hc : 32 ∉ c) (na : a ≠ []) (nb : b ≠ []) (nc : c ≠ []) : tw (a ++ 32 :: b ++ 32 :: c) = some (a, b, c) := by
  unfold tw
  have : pcs 32 (a ++ 32 :: b ++ 32 :: c) = [a, b, c] := by
    rw [List.append_assoc, List.cons_append, pcs_hit ha, pcs_hit hb, pcs_miss hc]
  rw [this]
  simp [na, nb, nc]
theorem maj_ne' {p m : List UInt8} (h : maj p = some m) : p ≠ [] := by
  rintro rfl
  have h1 := majE_some h
  rw [show majE [] = 110 by decide +kernel] at h1
  cases h1
theorem ver_ne' {p : List UInt8} {q : Prt} (h : ver p = some q) : p ≠ [] := by
  rintro rfl
  have h1 := verE_some h
  rw [show verE [] = 111 by decide +kernel] at h1
  cases h1
theorem sumT_ne (x : List UInt8) : sumT x ≠ [] := by simp [sumT]
theorem recT_len {p v x y : List UInt8} (hx : x.length = 32) (hy : y.length = 32) (h : fte p v = 0) : (recT p v x y).length ≤ 873 := by
  obtain ⟨m, q, hm, hq, _⟩ := fte_ok h
  have h1 := (maj_len hm).1
  have h2 := (ver_len hq).1
  have h3 := sumT_len hx
  have h4 := sumT_len hy
  unfold recT
  rw [if_pos h]
  simp only [lin, GOM, List.length_append, List.length_cons, List.length_nil]
  omega
theorem back_rec {p v x y : List UInt8} (hx : x.length = 32) (hy : y.length = 32) (h : fte p v = 0) : prc (recT p v x y) = ⟨p, v, x, y, 0⟩ := by
  have hlen := recT_len hx hy h
  obtain ⟨m, q, hm, hq, _⟩ := fte_ok h
  have hr : recT p v x y = joinL [p ++ 32 :: v ++ 32 :: sumT x, p ++ 32 :: (v ++ GOM) ++ 32 :: sumT y] := by
    unfold recT
    rw [if_pos h]
    simp [lin, joinL]
  have hl : linesOf (recT p v x y) = [p ++ 32 :: v ++ 32 :: sumT x, p ++ 32 :: (v ++ GOM) ++ 32 :: sumT y] := by
    rw [hr]
    refine lines_join _ fun l hl => ?_
    simp only [List.mem_cons, List.not_mem_nil, or_false] at hl
    rcases hl with rfl | rfl
    · intro hc
      simp only [List.mem_append, List.mem_cons] at hc
      rcases hc with (hc | hc | hc) | hc | hc
      · exact (maj_no hm _ hc).2.1 rfl
      · cases hc
      · exact (ver_no hq _ hc).2.1 rfl
      · cases hc
      · exact (sumT_no _ _ hc).2 rfl
    · intro hc
      rw [List.mem_append, List.mem_append, List.mem_cons, List.mem_cons, List.mem_append] at hc
      rcases hc with (hc | hc | hc | hc) | hc | hc
      · exact (maj_no hm _ hc).2.1 rfl
      · cases hc
      · exact (ver_no hq _ hc).2.1 rfl
      · exact (gom_no _ hc).2 rfl
      · cases hc
      · exact (sumT_no _ _ hc).2 rfl
  have p32 : (32 : UInt8) ∉ p := fun hc => (maj_no hm _ hc).1 rfl
  have v32 : (32 : UInt8) ∉ v := fun hc => (ver_no hq _ hc).1 rfl
  have g32 : (32 : UInt8) ∉ v ++ GOM := fun hc => by
    rcases List.mem_append.1 hc with hc | hc
    · exact v32 hc
    · exact (gom_no _ hc).1 rfl
  have s32 : ∀ z, (32 : UInt8) ∉ sumT z := fun z hc => (sumT_no _ _ hc).1 rfl
  have h0 : lnE (recT p v x y) = 0 := by
    unfold lnE
    rw [if_neg (by omega), if_pos]
    right
    unfold recT
    rw [if_pos h]
    unfold lin
    rw [← List.append_assoc, List.getLast?_append]
    rfl
  have ht : two (recT p v x y) = some ((p, v, sumT x), (p, v ++ GOM, sumT y)) := by
    unfold two
    rw [if_neg (by rintro (h | h); omega; exact h h0), hl]
    simp only
    rw [tw_back p32 v32 (s32 x) (maj_ne' hm) (ver_ne' hq) (sumT_ne x), tw_back p32 g32 (s32 y) (maj_ne' hm) (by simp [GOM]) (sumT_ne y)]
  unfold prc
  rw [ht]
  simp only
  have hrd : rdw p v (sumT x) (sumT y) = (x, y, 0) := by
    unfold rdw
    rw [psm_back hx, psm_back hy]
    simp [h]
  rw [hrd]
  simp
theorem back_path {p m : List UInt8} (h : maj p = some m) : upE (epT p) = 0 ∧ upT (epT p) = p := by
  have he : epT p = esc' p := by unfold epT; rw [h]; rfl
  have hu := esc_une p (maj_33 h)
  rw [he]
  unfold upE upT
  rw [hu]
  simp only
  rw [h]
  exact ⟨majE_some h, rfl⟩
theorem back_ver {p : List UInt8} {q : Prt} (h : ver p = some q) : uvE (evT p) = 0 ∧ uvT (evT p) = p := by
  have he : evT p = esc' p := by unfold evT; rw [h]; rfl
  have hu := esc_une p (ver_33 h)
  rw [he]
  unfold uvE uvT
  rw [hu]
  simp only
  rw [h]
  exact ⟨verE_some h, rfl⟩
theorem fte_bad (p v : List UInt8) : fte p v = 110 ↔ majE p ≠ 0 := by
  unfold fte
  cases hm : maj p with
  | none => rw [majE_none hm]; simp
  | some m =>
    rw [majE_some hm]
    simp only
    cases ver v with
    | none => simp
    | some q =>
      simp only
      split <;> simp
end Go.Proofs.YtfhdddhapjdocaaDoor
