import Derived.Test.YtfmdaollnjnhgaaDoorMp
import Derived.Lib.ItoaLen
namespace ModNum
open Go
theorem cmp3_all (m0 m1 m2 n0 n1 n2 : List UInt8) : cmp3 [m0, m1, m2] [n0, n1, n2] = if cmpU m0 n0 = 0 then (if cmpU m1 n1 = 0 then cmpU m2 n2 else cmpU m1 n1) else cmpU m0 n0 := by
  simp only [cmp3]
  by_cases h : cmpU m2 n2 = 0
  · rw [if_pos h, h]
  · rw [if_neg h]
theorem dd_big {u : Nat} (h : ¬ u < 10) : Lib.decDigits u = Lib.decDigits (u / 10) ++ [UInt8.ofNat (48 + u % 10)] := by
  rw [Lib.decDigits, dif_neg h]
theorem dg_toNat {i : Nat} (h : i < 10) : (UInt8.ofNat (48 + i)).toNat = 48 + i := by
  simp; omega
theorem dd_mem (u : Nat) : ∀ c ∈ Lib.decDigits u, 48 ≤ c.toNat ∧ c.toNat ≤ 57 := by
  induction u using Nat.strongRecOn with
  | ind u ih =>
    by_cases h : u < 10
    · rw [Lib.decDigits_one h]
      intro c hc
      obtain rfl := List.mem_singleton.1 hc
      rw [dg_toNat h]; omega
    · rw [dd_big h]
      intro c hc
      rcases List.mem_append.1 hc with hc | hc
      · exact ih (u / 10) (by omega) c hc
      · obtain rfl := List.mem_singleton.1 hc
        rw [dg_toNat (by omega)]; omega
theorem dd_ne (u : Nat) : Lib.decDigits u ≠ [] := fun h => by
  have := congrArg List.length h
  rw [Lib.decDigits_length] at this
  have := Lib.nDigits_pos u
  simp at *
  omega
theorem dd_head (u : Nat) (h0 : 1 ≤ u) : (Lib.decDigits u).head? ≠ some 48 := by
  induction u using Nat.strongRecOn with
  | ind u ih =>
    by_cases h : u < 10
    · rw [Lib.decDigits_one h]
      intro e
      have e := congrArg UInt8.toNat (Option.some.inj e)
      rw [dg_toNat h] at e
      simp at e
      omega
    · rw [dd_big h, List.head?_append]
      cases hd : (Lib.decDigits (u / 10)).head? with
      | none => exact absurd (List.head?_eq_none_iff.1 hd) (dd_ne _)
      | some c =>
        have := ih (u / 10) (by omega) (by omega)
        rw [hd] at this
        simpa using this
theorem dd_al (u : Nat) : al 4 (Lib.decDigits u) = true := al_of fun c hc => by
  have := dd_mem u c hc
  have hk : kd c.toNat = 4 := by unfold kd; rw [if_neg (by omega), if_neg (by omega), if_pos (by omega)]
  rw [hk]; decide
theorem dd_num (u : Nat) : isNum (Lib.decDigits u) = true := by
  unfold isNum
  rw [dd_al]
  by_cases h : u < 10
  · rw [Lib.decDigits_one h]; rfl
  · have h2 : 1 < (Lib.decDigits u).length := by
      rw [Lib.decDigits_length, Lib.nDigits_big h]
      have := Lib.nDigits_pos (u / 10)
      omega
    have h3 := dd_head u (by omega)
    simp [h2, h3]
theorem dd_low (u : Nat) : isLow (Lib.decDigits u) = decide (u < 2) := by
  by_cases h : u < 10
  · rw [Lib.decDigits_one h]
    have : ∀ i : Fin 10, isLow [UInt8.ofNat (48 + i.val)] = decide (i.val < 2) := by decide
    exact this ⟨u, h⟩
  · have h2 : 1 < (Lib.decDigits u).length := by
      rw [Lib.decDigits_length, Lib.nDigits_big h]
      have := Lib.nDigits_pos (u / 10)
      omega
    have h3 : ∀ c : UInt8, Lib.decDigits u ≠ [c] := fun c e => by rw [e] at h2; simp at h2
    unfold isLow
    rw [beq_eq_false_iff_ne.2 (h3 48), beq_eq_false_iff_ne.2 (h3 49)]
    exact (decide_eq_false (by omega)).symm
theorem cmpB_snoc : ∀ {l m : List UInt8} (x y : UInt8), l.length = m.length → cmpB (l ++ [x]) (m ++ [y]) = if cmpB l m = 0 then cmpN x.toNat y.toNat else cmpB l m
  | [], [], x, y, _ => by
    show (if x.toNat < y.toNat then -1 else if y.toNat < x.toNat then 1 else cmpB [] []) = _
    rfl
  | [], _ :: _, _, _, h => by simp at h
  | _ :: _, [], _, _, h => by simp at h
  | a :: l, b :: m, x, y, h => by
    have ih := cmpB_snoc (l := l) (m := m) x y (by simpa using h)
    rw [List.cons_append, List.cons_append, cmpB, cmpB]
    by_cases h1 : a.toNat < b.toNat
    · rw [if_pos h1, if_pos h1]; rfl
    · rw [if_neg h1, if_neg h1]
      by_cases h2 : b.toNat < a.toNat
      · rw [if_pos h2, if_pos h2]; rfl
      · rw [if_neg h2, if_neg h2]; exact ih
theorem cmpN_zero {a b : Nat} : cmpN a b = 0 ↔ a = b := by
  unfold cmpN
  by_cases h1 : a < b
  · rw [if_pos h1]; exact ⟨fun h => by simp at h, fun h => by omega⟩
  · rw [if_neg h1]
    by_cases h2 : b < a
    · rw [if_pos h2]; exact ⟨fun h => by simp at h, fun h => by omega⟩
    · rw [if_neg h2]; exact ⟨fun _ => by omega, fun _ => rfl⟩
theorem cmpN_succ (a b : Nat) : cmpN (a + 1) (b + 1) = cmpN a b := by
  unfold cmpN
  by_cases h1 : a < b
  · rw [if_pos h1, if_pos (by omega)]
  · rw [if_neg h1, if_neg (by omega)]
    by_cases h2 : b < a
    · rw [if_pos h2, if_pos (by omega)]
    · rw [if_neg h2, if_neg (by omega)]
theorem cmpU_snoc (l m : List UInt8) (x y : UInt8) : cmpU (l ++ [x]) (m ++ [y]) = if cmpU l m = 0 then cmpN x.toNat y.toNat else cmpU l m := by
  unfold cmpU
  rw [List.length_append, List.length_append]
  show (if cmpN (l.length + 1) (m.length + 1) = 0 then _ else cmpN (l.length + 1) (m.length + 1)) = _
  rw [cmpN_succ]
  by_cases h : cmpN l.length m.length = 0
  · rw [if_pos h, if_pos h]
    exact cmpB_snoc x y (cmpN_zero.1 h)
  · rw [if_neg h, if_neg h, if_neg h]
theorem cmpN_lt {a b : Nat} (h : a < b) : cmpN a b = -1 := if_pos h
theorem cmpN_gt {a b : Nat} (h : b < a) : cmpN a b = 1 := by unfold cmpN; rw [if_neg (by omega), if_pos h]
theorem cmpU_len {l m : List UInt8} (h : cmpN l.length m.length ≠ 0) : cmpU l m = cmpN l.length m.length := if_neg h
theorem cmpU_dd (a : Nat) : ∀ b : Nat, cmpU (Lib.decDigits a) (Lib.decDigits b) = cmpN a b := by
  induction a using Nat.strongRecOn with
  | ind a ih =>
    intro b
    by_cases ha : a < 10
    · by_cases hb : b < 10
      · rw [Lib.decDigits_one ha, Lib.decDigits_one hb]
        have := cmpU_snoc [] [] (UInt8.ofNat (48 + a)) (UInt8.ofNat (48 + b))
        rw [List.nil_append, List.nil_append] at this
        rw [this, if_pos (by rfl), dg_toNat ha, dg_toNat hb]
        unfold cmpN
        by_cases h1 : a < b
        · rw [if_pos h1, if_pos (by omega)]
        · rw [if_neg h1, if_neg (by omega)]
          by_cases h2 : b < a
          · rw [if_pos h2, if_pos (by omega)]
          · rw [if_neg h2, if_neg (by omega)]
      · have h1 : (Lib.decDigits a).length < (Lib.decDigits b).length := by
          rw [Lib.decDigits_length, Lib.decDigits_length, Lib.nDigits_small ha, Lib.nDigits_big hb]
          have := Lib.nDigits_pos (b / 10)
          omega
        rw [cmpU_len (by rw [cmpN_lt h1]; decide), cmpN_lt h1, cmpN_lt (by omega)]
    · by_cases hb : b < 10
      · have h1 : (Lib.decDigits b).length < (Lib.decDigits a).length := by
          rw [Lib.decDigits_length, Lib.decDigits_length, Lib.nDigits_small hb, Lib.nDigits_big ha]
          have := Lib.nDigits_pos (a / 10)
          omega
        rw [cmpU_len (by rw [cmpN_gt h1]; decide), cmpN_gt h1, cmpN_gt (by omega)]
      · rw [dd_big ha, dd_big hb, cmpU_snoc, ih (a / 10) (by omega) (b / 10), dg_toNat (by omega), dg_toNat (by omega)]
        by_cases h1 : a / 10 < b / 10
        · rw [cmpN_lt h1, cmpN_lt (show a < b by omega)]; rfl
        · by_cases h2 : b / 10 < a / 10
          · rw [cmpN_gt h2, cmpN_gt (show b < a by omega)]; rfl
          · rw [if_pos (cmpN_zero.2 (by omega))]
            unfold cmpN
            by_cases h3 : a < b
            · rw [if_pos h3, if_pos (by omega)]
            · rw [if_neg h3, if_neg (by omega)]
              by_cases h4 : b < a
              · rw [if_pos h4, if_pos (by omega)]
              · rw [if_neg h4, if_neg (by omega)]
def sdN (a0 a1 a2 b0 b1 b2 : Nat) : Int := if cmpN a0 b0 = 0 then (if cmpN a1 b1 = 0 then cmpN a2 b2 else cmpN a1 b1) else cmpN a0 b0
abbrev dd (u : Nat) : List UInt8 := Lib.decDigits u
def tri (a0 a1 a2 : Nat) : List UInt8 := dd a0 ++ 46 :: (dd a1 ++ 46 :: dd a2)
theorem cmp3_dd (a0 a1 a2 b0 b1 b2 : Nat) : cmp3 [dd a0, dd a1, dd a2] [dd b0, dd b1, dd b2] = sdN a0 a1 a2 b0 b1 b2 := by
  rw [cmp3_all, cmpU_dd, cmpU_dd, cmpU_dd]
  rfl
theorem dd_not {u : Nat} {c : UInt8} (h : c.toNat < 48 ∨ 57 < c.toNat) : c ∉ dd u := fun hc => by
  have := dd_mem u c hc
  omega
theorem tri_not {a0 a1 a2 : Nat} {c : UInt8} (h : c.toNat < 46) : c ∉ tri a0 a1 a2 := fun hc => by
  unfold tri at hc
  have h46 : c ≠ 46 := fun e => by rw [e] at h; exact absurd h (by decide)
  simp only [List.mem_append, List.mem_cons, h46, false_or] at hc
  rcases hc with hc | hc | hc <;> exact dd_not (.inl (by omega)) hc
theorem tri_pcs (a0 a1 a2 : Nat) : pcs 46 (tri a0 a1 a2) = [dd a0, dd a1, dd a2] := by
  unfold tri
  rw [pcs_hit (dd_not (.inl (by decide))), pcs_hit (dd_not (.inl (by decide))), pcs_miss (dd_not (.inl (by decide)))]
theorem sfx_inc {l : List UInt8} (h : 43 ∉ l) : sfx INC l = false := by
  cases hs : sfx INC l with
  | false => rfl
  | true =>
    have := List.isSuffixOf_iff_suffix.1 hs
    exact absurd (this.subset (by decide : (43 : UInt8) ∈ INC)) h
theorem dd_len {u : Nat} (h : u < 4294967296) : (dd u).length ≤ 20 := by
  show (Lib.decDigits u).length ≤ 20
  rw [Lib.decDigits_length]
  exact Lib.nDigits_le20 u (by omega)
theorem dd_pos (u : Nat) : 1 ≤ (dd u).length := by
  show 1 ≤ (Lib.decDigits u).length
  rw [Lib.decDigits_length]
  exact Lib.nDigits_pos u
theorem tri_len {a0 a1 a2 : Nat} (h0 : a0 < 4294967296) (h1 : a1 < 4294967296) (h2 : a2 < 4294967296) : (tri a0 a1 a2).length ≤ 62 := by
  unfold tri
  have := dd_len h0
  have := dd_len h1
  have := dd_len h2
  simp only [List.length_append, List.length_cons]
  omega
theorem tri_oks (a0 a1 a2 : Nat) : [dd a0, dd a1, dd a2].all isNum = true := by
  simp only [List.all_cons, List.all_nil, dd_num]
  rfl
theorem ver_tri {a0 a1 a2 : Nat} (h : (tri a0 a1 a2).length ≤ 62) : ver (118 :: tri a0 a1 a2) = some ⟨[dd a0, dd a1, dd a2], [], false⟩ := by
  have hc : vcore (118 :: tri a0 a1 a2) = tri a0 a1 a2 := by
    unfold vcore tsf
    show (if sfx INC (tri a0 a1 a2) = true then _ else _) = _
    rw [sfx_inc (tri_not (by decide))]
    rfl
  have hv : vprt (118 :: tri a0 a1 a2) = ⟨[dd a0, dd a1, dd a2], [], false⟩ := by
    unfold vprt
    rw [hc, ahd_miss (tri_not (by decide)), tri_pcs, if_neg (tri_not (by decide))]
    show Prt.mk _ _ (sfx INC (tri a0 a1 a2)) = _
    rw [sfx_inc (tri_not (by decide))]
  unfold ver
  rw [if_neg (by simp only [List.head?_cons, List.length_cons, ne_eq, not_true_eq_false, false_or]; omega), hv]
  exact if_pos ⟨rfl, by unfold vok; rw [tri_oks]; rfl⟩
theorem ver_pre {a0 a1 a2 : Nat} {r : List UInt8} (h : (tri a0 a1 a2).length ≤ 62) (hr : 43 ∉ r) (hl : r.length ≤ 20) (hw : (pcs 46 r).all isWrd = true) : ver (118 :: (tri a0 a1 a2 ++ 45 :: r)) = some ⟨[dd a0, dd a1, dd a2], pcs 46 r, false⟩ := by
  have hn : (43 : UInt8) ∉ tri a0 a1 a2 ++ 45 :: r := by
    simp only [List.mem_append, List.mem_cons, not_or]
    exact ⟨tri_not (by decide), by decide, hr⟩
  have hc : vcore (118 :: (tri a0 a1 a2 ++ 45 :: r)) = tri a0 a1 a2 ++ 45 :: r := by
    unfold vcore tsf
    show (if sfx INC (tri a0 a1 a2 ++ 45 :: r) = true then _ else _) = _
    rw [sfx_inc hn]
    rfl
  have hv : vprt (118 :: (tri a0 a1 a2 ++ 45 :: r)) = ⟨[dd a0, dd a1, dd a2], pcs 46 r, false⟩ := by
    unfold vprt
    rw [hc, ahd_app (tri_not (by decide)), bhd_app (tri_not (by decide)), tri_pcs, if_pos (by simp)]
    show Prt.mk _ _ (sfx INC (tri a0 a1 a2 ++ 45 :: r)) = _
    rw [sfx_inc hn]
  unfold ver
  rw [if_neg (by simp only [List.head?_cons, List.length_cons, List.length_append, ne_eq, not_true_eq_false, false_or]; omega), hv]
  exact if_pos ⟨rfl, by unfold vok; rw [tri_oks, hw]; rfl⟩
theorem ver_inc {a0 a1 a2 : Nat} (h : (tri a0 a1 a2).length ≤ 62) : ver (118 :: (tri a0 a1 a2 ++ INC)) = if a0 < 2 then none else some ⟨[dd a0, dd a1, dd a2], [], true⟩ := by
  have hs : sfx INC (tri a0 a1 a2 ++ INC) = true := List.isSuffixOf_iff_suffix.2 (List.suffix_append _ _)
  have hc : vcore (118 :: (tri a0 a1 a2 ++ INC)) = tri a0 a1 a2 := by
    unfold vcore tsf
    show (if sfx INC (tri a0 a1 a2 ++ INC) = true then (tri a0 a1 a2 ++ INC).take ((tri a0 a1 a2 ++ INC).length - INC.length) else _) = _
    rw [if_pos hs, List.length_append, Nat.add_sub_cancel, List.take_left']
    rfl
  have hv : vprt (118 :: (tri a0 a1 a2 ++ INC)) = ⟨[dd a0, dd a1, dd a2], [], true⟩ := by
    unfold vprt
    rw [hc, ahd_miss (tri_not (by decide)), tri_pcs, if_neg (tri_not (by decide))]
    show Prt.mk _ _ (sfx INC (tri a0 a1 a2 ++ INC)) = _
    rw [hs]
  unfold ver
  rw [if_neg (by simp only [List.head?_cons, List.length_cons, List.length_append, ne_eq, not_true_eq_false, false_or, show INC.length = 13 from rfl]; omega), hv]
  have hk : vok ⟨[dd a0, dd a1, dd a2], [], true⟩ = !decide (a0 < 2) := by
    unfold vok
    rw [tri_oks]
    show (true && true && !(true && isLow (dd a0))) = _
    rw [dd_low]
    simp
  by_cases h2 : a0 < 2
  · rw [if_pos h2]
    exact if_neg (fun h => by rw [hk] at h; simp [h2] at h)
  · rw [if_neg h2]
    exact if_pos ⟨rfl, by rw [hk]; simp [h2]⟩
theorem cmpV_of {x y : List UInt8} {p q : Prt} (hx : ver x = some p) (hy : ver y = some q) : cmpV x y = cmpP p q := by
  unfold cmpV
  rw [hx, hy]
  rfl
theorem cmpP_dd (a0 a1 a2 b0 b1 b2 : Nat) (u v : List (List UInt8)) (i j : Bool) : cmpP ⟨[dd a0, dd a1, dd a2], u, i⟩ ⟨[dd b0, dd b1, dd b2], v, j⟩ = if sdN a0 a1 a2 b0 b1 b2 = 0 then cmpWs u v else sdN a0 a1 a2 b0 b1 b2 := by
  unfold cmpP
  show (if cmp3 [dd a0, dd a1, dd a2] [dd b0, dd b1, dd b2] = 0 then _ else cmp3 [dd a0, dd a1, dd a2] [dd b0, dd b1, dd b2]) = _
  rw [cmp3_dd]
theorem sdN_self (a0 a1 a2 : Nat) : sdN a0 a1 a2 a0 a1 a2 = 0 := by
  unfold sdN
  rw [if_pos (cmpN_zero.2 rfl), if_pos (cmpN_zero.2 rfl)]
  exact cmpN_zero.2 rfl
theorem sdN_val (a0 a1 a2 b0 b1 b2 : Nat) : sdN a0 a1 a2 b0 b1 b2 = -1 ∨ sdN a0 a1 a2 b0 b1 b2 = 0 ∨ sdN a0 a1 a2 b0 b1 b2 = 1 := by
  unfold sdN cmpN
  repeat' split
  all_goals simp
def W0 : List UInt8 := [45, 48]
def W9 : List UInt8 := [45, 97, 46, 57]
def W10 : List UInt8 := [45, 97, 46, 49, 48]
def WR : List UInt8 := [45, 114, 99, 46, 49]
theorem num_facts {a0 a1 a2 b0 b1 b2 : Nat} (ha : (tri a0 a1 a2).length ≤ 62) (hb : (tri b0 b1 b2).length ≤ 62) :
    (ver (118 :: tri a0 a1 a2)).isSome = true ∧ cmpV (118 :: tri a0 a1 a2) (118 :: tri b0 b1 b2) = sdN a0 a1 a2 b0 b1 b2 ∧
    cmpV (118 :: (tri a0 a1 a2 ++ W0)) (118 :: tri a0 a1 a2) = -1 ∧
    cmpV (118 :: (tri a0 a1 a2 ++ W9)) (118 :: (tri a0 a1 a2 ++ W10)) = -1 ∧
    cmpV (118 :: (tri a0 a1 a2 ++ WR)) (118 :: tri b0 b1 b2) = (if sdN a0 a1 a2 b0 b1 b2 = 0 then -1 else sdN a0 a1 a2 b0 b1 b2) ∧
    (ver (118 :: (tri a0 a1 a2 ++ INC))).isSome = !decide (a0 < 2) ∧
    (¬ a0 < 2 → cmpV (118 :: (tri a0 a1 a2 ++ INC)) (118 :: tri a0 a1 a2) = 0 ∧ cmpV (118 :: (tri a0 a1 a2 ++ INC)) (118 :: tri b0 b1 b2) = sdN a0 a1 a2 b0 b1 b2) := by
  have va := ver_tri ha
  have vb := ver_tri hb
  have v0 := ver_pre (r := [48]) ha (by decide) (by decide) (by decide)
  have v9 := ver_pre (r := [97, 46, 57]) ha (by decide) (by decide) (by decide)
  have v10 := ver_pre (r := [97, 46, 49, 48]) ha (by decide) (by decide) (by decide)
  have vR := ver_pre (r := [114, 99, 46, 49]) ha (by decide) (by decide) (by decide)
  have vi := ver_inc ha
  have hz : ∀ x : Int, (if x = 0 then (0 : Int) else x) = x := fun x => by split <;> simp [*]
  refine ⟨by rw [va]; rfl, ?_, ?_, ?_, ?_, ?_, ?_⟩
  · rw [cmpV_of va vb, cmpP_dd, show cmpWs [] [] = 0 from rfl, hz]
  · rw [show W0 = 45 :: [48] from rfl, cmpV_of v0 va, cmpP_dd, sdN_self]; rfl
  · rw [show W9 = 45 :: [97, 46, 57] from rfl, show W10 = 45 :: [97, 46, 49, 48] from rfl, cmpV_of v9 v10, cmpP_dd, sdN_self]; rfl
  · rw [show WR = 45 :: [114, 99, 46, 49] from rfl, cmpV_of vR vb, cmpP_dd]; rfl
  · rw [vi]
    by_cases h : a0 < 2
    · rw [if_pos h]; simp [h]
    · rw [if_neg h]; simp [h]
  · intro h
    rw [if_neg h] at vi
    refine ⟨?_, ?_⟩
    · rw [cmpV_of vi va, cmpP_dd, sdN_self]; rfl
    · rw [cmpV_of vi vb, cmpP_dd, show cmpWs [] [] = 0 from rfl, hz]
end ModNum
