import Derived.Test.YtfhdddhapjdocaaDoorMu
/-! what stands behind a path: no model in it -/
namespace Go.Proofs.YtfhdddhapjdocaaDoor
open Go.RowKit Go.Shelf TextNum ModNum
theorem pcs_app (c : UInt8) : ∀ a b : List UInt8, pcs c (a ++ c :: b) = pcs c a ++ pcs c b
  | [], b => by simp [pcs]
  | x :: a, b => by
    have ih := pcs_app c a b
    rw [List.cons_append]
    by_cases hx : x = c
    · rw [pcs, if_pos hx, pcs, if_pos hx, ih]; rfl
    · rw [pcs, if_neg hx, pcs, if_neg hx, ih]
      cases hp : pcs c a with
      | nil => exact absurd hp (pcs_ne c a)
      | cons q qs => rfl
def melT (last : List UInt8) : Option (List UInt8) :=
  if last.head? ≠ some 118 ∨ last.drop 1 = [] ∨ al 20 (last.drop 1) = false then some []
  else if isNum (last.drop 1) && !isLow (last.drop 1) then some (last.drop 1) else none
def majT (b : List UInt8) : Option (List UInt8) := if al 127 b && (pcs 47 b).all elm then melT ((pcs 47 b).getLastD []) else none
theorem isNum_ne {l : List UInt8} (h : isNum l = true) : l ≠ [] := by
  rintro rfl
  revert h
  decide
theorem mel_app {es fs : List (List UInt8)} (he : es ≠ []) (hf : fs ≠ []) (h : mel es = some []) : mel (es ++ fs) = melT (fs.getLastD []) := by
  obtain ⟨e, es, rfl⟩ := List.exists_cons_of_ne_nil he
  have hh : ((e :: es) ++ fs).headD [] = e := rfl
  have hg : e ≠ GOPKG := by
    intro hg
    unfold mel at h
    simp only [List.headD_cons, hg, if_true] at h
    split at h
    · rename_i hc
      have := Option.some.inj h
      rw [this] at hc
      simp at hc
      exact isNum_ne hc.2 rfl
    · cases h
  have hl : ((e :: es) ++ fs).getLastD [] = fs.getLastD [] := by
    rw [List.getLastD_eq_getLast?, List.getLastD_eq_getLast?, List.getLast?_append]
    cases hq : fs.getLast? with
    | none => exact absurd (List.getLast?_eq_none_iff.1 hq) hf
    | some x => rfl
  have hn : ¬ ((e :: es) ++ fs).length = 1 := by
    have := List.length_pos_iff.2 hf
    simp only [List.length_append, List.length_cons]
    omega
  unfold mel melT
  simp only [hh, hl, hg, if_false, hn, false_or]
theorem maj_tail {p b : List UInt8} (h : maj p = some []) (hl : p.length + 1 + b.length ≤ 255) : maj (p ++ 47 :: b) = majT b := by
  unfold maj at h
  split at h
  · cases h
  · rename_i h1
    have ha : al 127 p = true := by
      cases hq : al 127 p with
      | true => rfl
      | false => exact absurd (.inr hq) h1
    split at h
    · rename_i h2
      have h2' := h2
      simp only [Bool.and_eq_true] at h2'
      have hd : (pcs 47 p ++ pcs 47 b).headD [] = (pcs 47 p).headD [] := by
        cases hp : pcs 47 p with
        | nil => exact absurd hp (pcs_ne 47 p)
        | cons q qs => rfl
      unfold maj majT
      rw [pcs_app, hd, al_append, al_cons, ha, List.all_append, h2'.1, h2'.2, mel_app (pcs_ne 47 p) (pcs_ne 47 b) h]
      have e47 : decide (kd (47 : UInt8).toNat &&& 127 ≠ 0) = true := by decide
      rw [e47]
      have hlen : ¬ 255 < (p ++ 47 :: b).length := by simp only [List.length_append, List.length_cons]; omega
      simp only [hlen, false_or, Bool.true_and]
      cases al 127 b with
      | false => simp
      | true => simp
    · cases h
theorem maj_slash (p : List UInt8) : maj (47 :: p) = none := by
  unfold maj
  split
  · rfl
  · have : (pcs 47 (47 :: p)).headD [] = [] := by rw [pcs, if_pos rfl]; rfl
    rw [this]
    simp [hst]
abbrev V1 : List UInt8 := [118, 49, 46, 48, 46, 48]
abbrev V0 : List UInt8 := [118, 48, 46, 48, 46, 48]
abbrev V2 : List UInt8 := [118, 50, 46, 48, 46, 48]
abbrev V3 : List UInt8 := [118, 51, 46, 48, 46, 48]
abbrev V2x : List UInt8 := [118, 50, 46, 51, 46, 52, 45, 120]
abbrev V2i : List UInt8 := V2 ++ INC
abbrev V9i : List UInt8 := [118, 57, 46, 49, 46, 48, 45, 97] ++ INC
theorem fte_of {p v m : List UInt8} {q : Prt} (h : maj p = some m) (hv : ver v = some q) : fte p v = if fit q m then 0 else 111 := by
  unfold fte
  rw [h, hv]
theorem ver1 : ver V1 = some ⟨[[49], [48], [48]], [], false⟩ := by rfl
theorem ver0 : ver V0 = some ⟨[[48], [48], [48]], [], false⟩ := by rfl
theorem ver2 : ver V2 = some ⟨[[50], [48], [48]], [], false⟩ := by rfl
theorem ver3 : ver V3 = some ⟨[[51], [48], [48]], [], false⟩ := by rfl
theorem ver2x : ver V2x = some ⟨[[50], [51], [52]], [[120]], false⟩ := by rfl
theorem ver2i : ver V2i = some ⟨[[50], [48], [48]], [], true⟩ := by rfl
theorem ver9i : ver V9i = some ⟨[[57], [49], [48]], [[97]], true⟩ := by rfl
theorem maj_plain {p : List UInt8} (h1 : fte p V1 = 0) (h0 : fte p V0 = 0) : maj p = some [] := by
  obtain ⟨m, q, hm, hq, hf⟩ := fte_ok h1
  obtain ⟨m', q', hm', hq', hf'⟩ := fte_ok h0
  rw [hm] at hm'
  obtain rfl := Option.some.inj hm'
  rw [ver1] at hq
  rw [ver0] at hq'
  obtain rfl := Option.some.inj hq
  obtain rfl := Option.some.inj hq'
  unfold fit at hf hf'
  split at hf
  · rename_i h; rw [hm, h]
  · rename_i h
    rw [if_neg h] at hf'
    simp at hf hf'
    rw [← hf] at hf'
    exact absurd hf' (by decide)
abbrev TLS : List (List UInt8) := [[47], [47, 118, 48], [47, 118, 49], [47, 118, 48, 50], [47, 118, 50, 46, 48], [47, 47, 98], [47, 46, 98], [47, 98, 46], [47, 97, 32, 98], [47, 99, 111, 110], [47, 78, 117, 108, 46, 120], [47, 120, 126, 49]]
theorem tls_all : TLS.all (fun s => s.head? == some 47 && (majT (s.drop 1)).isNone && decide (s.length ≤ 6)) = true := by decide +kernel
theorem tls_bad {p : List UInt8} (h : maj p = some []) (s : List UInt8) (hs : s ∈ TLS) : majE (p ++ s) = 110 := by
  have h1 := List.all_eq_true.1 tls_all s hs
  simp only [Bool.and_eq_true, beq_iff_eq, decide_eq_true_eq] at h1
  obtain ⟨⟨h2, h3⟩, h4⟩ := h1
  cases s with
  | nil => cases h2
  | cons c s =>
    have hc : c = 47 := by simpa using h2
    subst hc
    rcases Nat.lt_or_ge 255 (p.length + 1 + s.length) with hl | hl
    · refine majE_none ?_
      unfold maj
      rw [if_pos (.inl (by simp only [List.length_append, List.length_cons]; omega))]
    · refine majE_none ?_
      rw [maj_tail h hl]
      simpa using h3
theorem maj_v2 {p : List UInt8} (h : maj p = some []) (hl : p.length ≤ 250) : maj (p ++ [47, 118, 50]) = some [50] := by
  rw [maj_tail h (by simp; omega)]
  rfl
theorem maj_vx {p : List UInt8} (h : maj p = some []) (hl : p.length ≤ 250) : maj (p ++ [47, 118, 120]) = some [] := by
  rw [maj_tail h (by simp; omega)]
  rfl
/-- what the law asks of a path's keys -/
theorem majors_keys {p : List UInt8} (h1 : fte p V1 = 0) (h0 : fte p V0 = 0) (hl : p.length ≤ 250) :
    fte p V2 = 111 ∧ fte p V2i = 0 ∧ fte p V9i = 0 ∧ fte (p ++ [47, 118, 50]) V2 = 0 ∧ fte (p ++ [47, 118, 50]) V2x = 0 ∧ fte (p ++ [47, 118, 50]) V1 = 111 ∧ fte (p ++ [47, 118, 50]) V3 = 111 ∧ fte (p ++ [47, 118, 50]) V2i = 111 ∧ (∀ s ∈ TLS, majE (p ++ s) = 110) ∧ majE (47 :: p) = 110 ∧ majE (p ++ [47, 118, 120]) = 0 := by
  have hm := maj_plain h1 h0
  have h2 := maj_v2 hm hl
  refine ⟨?_, ?_, ?_, ?_, ?_, ?_, ?_, ?_, tls_bad hm, majE_none (maj_slash p), majE_some (maj_vx hm hl)⟩
  · rw [fte_of hm ver2]; rfl
  · rw [fte_of hm ver2i]; rfl
  · rw [fte_of hm ver9i]; rfl
  · rw [fte_of h2 ver2]; rfl
  · rw [fte_of h2 ver2x]; rfl
  · rw [fte_of h2 ver1]; rfl
  · rw [fte_of h2 ver3]; rfl
  · rw [fte_of h2 ver2i]; rfl
end Go.Proofs.YtfhdddhapjdocaaDoor
