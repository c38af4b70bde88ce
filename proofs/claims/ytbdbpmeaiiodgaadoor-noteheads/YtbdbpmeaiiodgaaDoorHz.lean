import Derived.Test.YtbdbpmeaiiodgaaDoorHr
namespace Go.Proofs.YtbdbpmeaiiodgaaDoor
open Go.RowKit Go.Shelf TextNum
theorem name_no10 {o : ByteArray} (h : nameR o = 0) : (10 : UInt8) ∉ o.data.toList := by
  intro hm
  obtain ⟨k, hk, e⟩ := List.getElem_of_mem hm
  have hk' : k < o.size := by rw [Go.Lib.size_eq]; exact hk
  have := (((name_iff o).1 h).2.2.2 k hk').1
  refine this (.inl ?_)
  rw [gb_list, List.getD_eq_getElem?_getD, List.getElem?_eq_getElem hk, e]
  decide
theorem itoa_no10 {n : Int} (h : 0 ≤ n) : (10 : UInt8) ∉ Go.Lib.itoa n := by
  obtain ⟨u, rfl⟩ := Int.eq_ofNat_of_zero_le h
  rw [itoa_nat]
  intro hm
  have := List.all_eq_true.1 (dec_all u) 10 hm
  revert this; decide
theorem lt_no10 (i : Nat) : lt i ≠ 10 := by
  unfold lt
  rcases Nat.lt_or_ge i 64 with h | h
  · have : ∀ k : Fin 64, TextNum.LT.getD k.1 0 ≠ 10 := by decide
    exact this ⟨i, h⟩
  · rw [List.getD_eq_getElem?_getD, List.getElem?_eq_none (by simpa [TextNum.LT] using h)]
    decide
theorem g_no10 : ∀ (x : List UInt8), (10 : UInt8) ∉ b64E x
  | [] => by simp [b64E]
  | [x] => by simp [b64E, g1, Ne.symm (lt_no10 _)]
  | [x, y] => by simp [b64E, g2, Ne.symm (lt_no10 _)]
  | x :: y :: z :: r => by
    have := g_no10 r
    simp [b64E, g3, Ne.symm (lt_no10 _), this]
theorem prs_itoa {n : Int} (h0 : 0 ≤ n) (h1 : n ≤ 281474976710656) : prs (Go.Lib.itoa n) 281474976710656 = (n, 0) := by
  obtain ⟨u, rfl⟩ := Int.eq_ofNat_of_zero_le h0
  have hl := (itoa_len (u : Int) (by omega) (by omega)).1
  unfold prs
  rw [if_neg (by omega), itoa_nat, if_pos (isN_dec u), nv_dec, if_pos ⟨by omega, by omega⟩]
theorem prs_fine {b : List UInt8} {n : Int} (h : (prs b 281474976710656).2 = 0) (hn : (prs b 281474976710656).1 = n) : Go.Lib.itoa n = b ∧ 0 ≤ n ∧ n ≤ 281474976710656 := by
  unfold prs at h hn
  split at h
  · cases h
  · rename_i h1
    rw [if_neg h1] at hn
    split at h
    · rename_i h2
      rw [if_pos h2] at hn
      split at h
      · rename_i h3
        rw [if_pos h3] at hn
        subst hn
        exact ⟨by rw [itoa_nat, dec_nv b h2], by omega, h3.1⟩
      · cases h
    · cases h
theorem b64R_ok {c r : List UInt8} (h : (b64R c).2 = 0) (hr : (b64R c).1 = r) : b64E r = c := by
  unfold b64R at h hr
  split at h
  · cases h
  · rename_i h1
    rw [if_neg h1] at hr
    split at h
    · rename_i x hx
      rw [hx] at hr
      exact hr ▸ b64_once c x hx
    · cases h
theorem b64R_enc {r : List UInt8} (h : r.length = 32) : b64R (b64E r) = (r, 0) := b64R_some (by rw [b64E_length, h]; decide) (b64_back r)
theorem headT_join (o : ByteArray) (n : Int) (r : List UInt8) : headT o n r = joinL [o.data.toList, Go.Lib.itoa n, b64E r] := by simp [headT, joinL]
theorem head_back {o : ByteArray} {n : Int} {r : List UInt8} (hn : nameR o = 0) (h0 : 0 ≤ n) (h1 : n ≤ 281474976710656) (hr : r.length = 32) : rdH (headT o n r) = some (o.data.toList, n, r) := by
  have hl : linesOf (headT o n r) = [o.data.toList, Go.Lib.itoa n, b64E r] := by
    rw [headT_join]
    refine lines_join _ fun x hx => ?_
    simp only [List.mem_cons, List.not_mem_nil, or_false] at hx
    rcases hx with rfl | rfl | rfl
    · exact name_no10 hn
    · exact itoa_no10 h0
    · exact g_no10 r
  have hE : lnE (headT o n r) = 0 := by
    unfold lnE
    have hlen : (headT o n r).length ≤ 1048576 := by
      have h3 := ((name_iff o).1 hn).2.1
      rw [Go.Lib.size_eq] at h3
      have h4 := (itoa_len n (by omega) (by omega)).1
      have h5 : (b64E r).length = 44 := by rw [b64E_length, hr]
      simp only [headT, List.length_append, List.length_cons, List.length_nil]
      omega
    rw [if_neg (by omega), if_pos (.inr (by unfold headT; exact List.getLast?_concat))]
  unfold rdH
  rw [if_neg (by simp [hE]), hl]
  simp only [prs_itoa h0 h1, b64R_enc hr]
  rw [show (⟨o.data.toList.toArray⟩ : ByteArray) = o from rfl]
  simp [hn, hr]
theorem head_once {l a r : List UInt8} {n : Int} (h : rdH l = some (a, n, r)) : fmtH ⟨a.toArray⟩ n r = (l, 0) ∧ r.length = 32 ∧ 0 ≤ n ∧ n ≤ 281474976710656 := by
  obtain ⟨hE, a', b, c, habc, h3, h4, h5, h6, e⟩ := rdH_some h
  injection e with e1 e2
  injection e2 with e2 e3
  subst e1
  obtain ⟨p1, p2, p3⟩ := prs_fine h4 e2.symm
  have q1 := b64R_ok h5 e3.symm
  rw [← e3] at h6
  refine ⟨?_, h6, p2, p3⟩
  unfold fmtH
  rw [if_neg (by simp [h3]), if_neg (by omega), headT_join, p1, q1, show (⟨a.toArray⟩ : ByteArray).data.toList = a from rfl, ← habc, join_lines l]
  unfold lnE at hE
  split at hE
  · omega
  · split at hE
    · assumption
    · omega
end Go.Proofs.YtbdbpmeaiiodgaaDoor
