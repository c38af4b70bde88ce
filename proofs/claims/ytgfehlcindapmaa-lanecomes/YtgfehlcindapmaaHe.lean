import Derived.Test.YtgfehlcindapmaaHd
namespace Go.Proofs.Ytgfehlcindapmaa
open Go.RowKit Go.Conc TextNum
theorem becomes_any (w : World) (v : Value) (D : List Co) (hD : CO w 0 v D) (hl : D.length ≤ 900) (q : Sn) (t m : Nat) (hq : Tm w q) (ht : t ≤ 2305843009213693952) :
    Calls Try.prog 27 #[v, .agg (snc q).toArray, .int .i64 (t : Int), .int .i64 (m : Int)] w fun e w' => ∃ v' cs, e = .returned v' ∧ Bec w w' v' D q t m cs := by
  obtain ⟨g, i, a, c, d, k, n⟩ := q
  obtain ⟨hq, hn0, hn1⟩ := hq
  dsimp only at hn0 hn1
  obtain ⟨n, rfl⟩ := Int.eq_ofNat_of_zero_le hn0
  have hf : fok (k, (n : Int)) = true := hq.fk
  have hk : k = 0 ∨ k = 1 ∨ k = 2 ∨ k = 3 ∨ k = 4 ∨ k = 5 := by
    simp only [fok, Bool.or_eq_true, Bool.and_eq_true, beq_iff_eq, decide_eq_true_eq] at hf
    omega
  have ht2 : t + n ≤ 4611686018427387904 := by omega
  clear hf
  rcases hk with rfl | rfl | rfl | rfl | rfl | rfl
  · exact becomes_0 w v D hD hl g i a c d n t m hq ht2
  · exact becomes_1 w v D hD hl g i a c d n t m hq ht2
  · exact becomes_2 w v D hD hl g i a c d n t m hq ht2
  · exact becomes_3 w v D hD hl g i a c d n t m hq ht2
  · by_cases h : n < d.length
    · exact becomes_4a w v D hD hl g i a c d n t m hq ht2 h
    · exact becomes_4b w v D hD hl g i a c d n t m hq ht2 h
  · by_cases h : n < d.length
    · exact becomes_5a w v D hD hl g i a c d n t m hq ht2 h
    · exact becomes_5b w v D hD hl g i a c d n t m hq ht2 h
/-! ### what is under way on one lane, held against what must come -/
structure CV (k i : Nat) (A : AN) (D : List Co) : Prop where
  ls : A.ls[k]? = some ((D.filter fun x => decide (x.t ≤ A.now)).map (·.d), false)
  pd : ∀ t, A.now < t → (A.pd.filter fun p => p.1 == t && p.2.1 == k).map (·.2.2) = (D.filter fun x => x.t == t).map (·.d)
  fu : ∀ p ∈ A.pd, p.2.1 = k → A.now < p.1
  od : Ord D
  dr : ∀ x ∈ D, A.now < x.t → x.x = 0
  nm : ∀ x ∈ D, x.m ≤ i ∧ x.x ≤ 1
theorem CV.next {k i j : Nat} {A : AN} {D : List Co} (h : CV k i A D) (hj : i ≤ j) : CV k j A D := ⟨h.ls, h.pd, h.fu, h.od, h.dr, fun x hx => ⟨Nat.le_trans (h.nm x hx).1 hj, (h.nm x hx).2⟩⟩
theorem CV.fs {k i : Nat} {A : AN} {D : List Co} (h : CV k i A D) (f : List (Int × Int)) : CV k i { A with fs := f } D := ⟨h.ls, h.pd, h.fu, h.od, h.dr, h.nm⟩
theorem Ord.app : ∀ {X Y : List Co}, Ord X → Ord Y → (∀ x ∈ X, ∀ y ∈ Y, x.t ≤ y.t) → Ord (X ++ Y)
  | [], _, _, hY, _ => hY
  | x :: r, Y, hX, hY, h => ⟨fun y hy => by
      rcases List.mem_append.1 hy with hy | hy
      · exact hX.1 y hy
      · exact h x (by simp) y hy, Ord.app hX.2 hY (fun x hx => h x (by simp [hx]))⟩
theorem Ord.filter : ∀ {X : List Co} (p : Co → Bool), Ord X → Ord (X.filter p)
  | [], _, _ => trivial
  | x :: r, p, h => by
    by_cases e : p x = true
    · rw [List.filter_cons_of_pos e]
      exact ⟨fun y hy => h.1 y (List.mem_filter.1 hy).1, Ord.filter p h.2⟩
    · rw [List.filter_cons_of_neg e]
      exact Ord.filter p h.2
theorem filter_none {α : Type} {p : α → Bool} {l : List α} (h : ∀ x ∈ l, p x = false) : l.filter p = [] := List.filter_eq_nil_iff.2 fun x hx => by rw [h x hx]; simp
theorem filter_same {α : Type} {p q : α → Bool} {l : List α} (h : ∀ x ∈ l, p x = q x) : l.filter p = l.filter q := List.filter_congr h
theorem len_filter_le {α : Type} (p : α → Bool) (l : List α) : (l.filter p).length ≤ l.length := List.length_filter_le p l
def ins (D : List Co) (c : Co) : List Co := D.filter (fun x => decide (x.t ≤ c.t)) ++ c :: D.filter (fun x => decide (c.t < x.t))
theorem ff (p q r : Co → Bool) (D : List Co) (h : ∀ x, (p x && q x) = r x) : (D.filter q).filter p = D.filter r := by
  rw [List.filter_filter]
  exact filter_same fun x _ => h x
theorem ff0 (p q : Co → Bool) (D : List Co) (h : ∀ x, (p x && q x) = false) : (D.filter q).filter p = [] := by
  rw [List.filter_filter]
  exact filter_none fun x _ => h x
theorem ins_now (D : List Co) (c : Co) : (ins D c).filter (fun x => decide (x.t ≤ c.t)) = D.filter (fun x => decide (x.t ≤ c.t)) ++ [c] := by
  unfold ins
  rw [List.filter_append, List.filter_cons_of_pos (by simp), ff _ _ (fun x => decide (x.t ≤ c.t)) D (fun x => by simp), ff0 _ _ D (fun x => by
    by_cases e : x.t ≤ c.t
    · simp
    · simp [e])]
theorem ins_past (D : List Co) (c : Co) {N : Nat} (h : N < c.t) : (ins D c).filter (fun x => decide (x.t ≤ N)) = D.filter (fun x => decide (x.t ≤ N)) := by
  unfold ins
  rw [List.filter_append, List.filter_cons_of_neg (by simp; omega), ff _ _ (fun x => decide (x.t ≤ N)) D (fun x => by
    by_cases e : x.t ≤ N
    · simp [e]; omega
    · simp [e]), ff0 _ _ D (fun x => by
    by_cases e : x.t ≤ N
    · simp [e]; omega
    · simp [e]), List.append_nil]
theorem ins_at (D : List Co) (c : Co) (t : Nat) : (ins D c).filter (fun x => x.t == t) = D.filter (fun x => x.t == t) ++ if c.t = t then [c] else [] := by
  unfold ins
  rw [List.filter_append]
  rcases Nat.lt_trichotomy c.t t with h | h | h
  · rw [if_neg (by omega), List.append_nil, List.filter_cons_of_neg (by simp; omega), ff0 _ _ D (fun x => by
      by_cases e : x.t = t
      · simp [e]; omega
      · simp [e]), ff _ _ (fun x => x.t == t) D (fun x => by
      by_cases e : x.t = t
      · simp [e]; omega
      · simp [e]), List.nil_append]
  · rw [if_pos h, List.filter_cons_of_pos (by simp [h]), ff _ _ (fun x => x.t == t) D (fun x => by
      by_cases e : x.t = t
      · simp [e]; omega
      · simp [e]), ff0 _ _ D (fun x => by
      by_cases e : x.t = t
      · simp [e]; omega
      · simp [e])]
  · rw [if_neg (by omega), List.append_nil, List.filter_cons_of_neg (by simp; omega), ff _ _ (fun x => x.t == t) D (fun x => by
      by_cases e : x.t = t
      · simp [e]; omega
      · simp [e]), ff0 _ _ D (fun x => by
      by_cases e : x.t = t
      · simp [e]; omega
      · simp [e]), List.append_nil]
theorem ins_ord {D : List Co} (c : Co) (h : Ord D) : Ord (ins D c) := by
  refine Ord.app (h.filter _) ⟨fun y hy => ?_, h.filter _⟩ (fun x hx y hy => ?_)
  · have := (List.mem_filter.1 hy).2
    simp only [decide_eq_true_eq] at this
    omega
  · have h1 := (List.mem_filter.1 hx).2
    simp only [decide_eq_true_eq] at h1
    rcases List.mem_cons.1 hy with rfl | hy
    · exact h1
    · have := (List.mem_filter.1 hy).2
      simp only [decide_eq_true_eq] at this
      omega
theorem ins_mem {D : List Co} {c x : Co} (hx : x ∈ ins D c) : x = c ∨ x ∈ D := by
  rcases List.mem_append.1 hx with hx | hx
  · exact .inr (List.mem_filter.1 hx).1
  · rcases List.mem_cons.1 hx with rfl | hx
    · exact .inl rfl
    · exact .inr (List.mem_filter.1 hx).1
/-- one post of a message, and what must come of it -/
theorem CV.post {k i : Nat} {A : AN} {D : List Co} (h : CV k i A D) (hl : D.length < 64) {c : Co} {p : List UInt8 × Nat} (hc : CoFor A.now i c p) : CV k i (postA A k p.1 p.2) (putL D c) := by
  obtain ⟨c1, c2, c3, c4⟩ := hc
  have hle : ∀ x ∈ D, x.t = c.t → ahd c x = false := fun x hx e => by
    have h1 := h.nm x hx
    unfold ahd
    rw [if_pos e.symm]
    by_cases hp : 0 < p.2
    · have h2 := h.dr x hx (by omega)
      rw [if_pos hp] at c2
      rw [if_pos (by omega)]
      simp only [decide_eq_false_iff_not]
      omega
    · rw [if_neg hp] at c2
      split
      · simp only [decide_eq_false_iff_not]; omega
      · simp only [decide_eq_false_iff_not]; omega
  have e : putL D c = ins D c := putL_eq D c h.od hle
  rw [e]
  have hnm : ∀ x ∈ ins D c, x.m ≤ i ∧ x.x ≤ 1 := fun x hx => by
    rcases ins_mem hx with rfl | hx
    · refine ⟨by omega, ?_⟩
      rw [c2]
      split <;> omega
    · exact h.nm x hx
  have hdr : ∀ x ∈ ins D c, A.now < x.t → x.x = 0 := fun x hx ht => by
    rcases ins_mem hx with rfl | hx
    · rw [c2, if_pos (by omega)]
    · exact h.dr x hx ht
  by_cases hp : p.2 = 0
  · have hct : c.t = A.now := by omega
    have hq : ((D.filter fun x => decide (x.t ≤ A.now)).map (·.d)).length < 64 := by
      rw [List.length_map]
      exact Nat.lt_of_le_of_lt (len_filter_le _ _) hl
    unfold postA
    rw [if_pos hp]
    refine ⟨?_, fun t ht => ?_, h.fu, ins_ord c h.od, hdr, hnm⟩
    · show (A.ls.modify k (comeA · p.1))[k]? = some (((ins D c).filter fun x => decide (x.t ≤ A.now)).map (·.d), false)
      rw [List.getElem?_modify_eq, h.ls, ← hct, ins_now, hct, List.map_append]
      show some (comeA _ p.1) = some (_, false)
      unfold comeA
      dsimp only
      rw [if_pos hq, ← c4]
      rfl
    · have ht' : A.now < t := ht
      show (A.pd.filter fun p => p.1 == t && p.2.1 == k).map (·.2.2) = _
      rw [h.pd t ht', ins_at, if_neg (by omega), List.append_nil]
  · have hct : A.now < c.t := by omega
    unfold postA
    rw [if_neg hp]
    refine ⟨?_, fun t ht => ?_, fun q hq hk => ?_, ins_ord c h.od, hdr, hnm⟩
    · show A.ls[k]? = some (((ins D c).filter fun x => decide (x.t ≤ A.now)).map (·.d), false)
      rw [h.ls, ins_past D c hct]
    · have ht' : A.now < t := ht
      show ((A.pd ++ [(A.now + p.2, k, p.1)]).filter fun p => p.1 == t && p.2.1 == k).map (·.2.2) = _
      rw [List.filter_append, List.map_append, h.pd t ht', ins_at, List.map_append]
      by_cases e : c.t = t
      · rw [if_pos e, List.filter_cons_of_pos (by simp; omega)]
        simp [c4]
      · rw [if_neg e, List.filter_cons_of_neg (by simp; omega)]
        rfl
    · have hq' : q ∈ A.pd ++ [(A.now + p.2, k, p.1)] := hq
      show A.now < q.1
      rcases List.mem_append.1 hq' with hq' | hq'
      · exact h.fu q hq' hk
      · obtain rfl := List.mem_singleton.1 hq'
        show A.now < A.now + p.2
        omega
/-- a post on another lane -/
theorem CV.other {k i j : Nat} {A : AN} {D : List Co} (h : CV k i A D) (hj : j ≠ k) (d : List UInt8) (n : Nat) : CV k i (postA A j d n) D := by
  unfold postA
  split
  · refine ⟨?_, h.pd, h.fu, h.od, h.dr, h.nm⟩
    show (A.ls.modify j (comeA · d))[k]? = _
    rw [List.getElem?_modify_ne _ _ hj]
    exact h.ls
  · refine ⟨h.ls, fun t ht => ?_, fun q hq hk => ?_, h.od, h.dr, h.nm⟩
    · show ((A.pd ++ [(A.now + n, j, d)]).filter fun p => p.1 == t && p.2.1 == k).map (·.2.2) = _
      rw [List.filter_append, List.filter_cons_of_neg (by simp [hj]), List.filter_nil, List.append_nil]
      exact h.pd t ht
    · have hq' : q ∈ A.pd ++ [(A.now + n, j, d)] := hq
      rcases List.mem_append.1 hq' with hq' | hq'
      · exact h.fu q hq' hk
      · obtain rfl := List.mem_singleton.1 hq'
        exact absurd hk hj
end Go.Proofs.Ytgfehlcindapmaa
