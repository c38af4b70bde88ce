import Derived.Test.YtbgjnghjddcooaaGreatDoorK1
import Derived.Test.YtbgjnghjddcooaaGreatDoorK5
namespace Go.Proofs.YtbgjnghjddcooaaGreatDoor
open Go.RowKit Go.Shelf TextNum
/-! what is printed is read back, in plain lists -/
theorem indexByte_at (a b : List UInt8) (k : UInt8) (h : k ∉ a) : Go.Lib.indexByte (a ++ k :: b) k = (a.length : Int) := by
  have hat : (a ++ k :: b)[a.length]? = some k := by simp
  have hge := Go.Lib.indexByte_ge (a ++ k :: b) k
  by_cases h0 : 0 ≤ Go.Lib.indexByte (a ++ k :: b) k
  · obtain ⟨o, ho⟩ := Int.eq_ofNat_of_zero_le h0
    obtain ⟨h1, h2⟩ := Go.Lib.indexByte_some ho
    rw [ho]
    rcases Nat.lt_trichotomy o a.length with hlt | heq | hgt
    · rw [List.getElem?_append_left hlt] at h1
      exact absurd (List.mem_of_getElem? h1) h
    · rw [heq]
    · exact absurd hat (h2 _ hgt)
  · exact absurd hat (Go.Lib.indexByte_none (by omega) a.length)
theorem cut_at (a b : List UInt8) (k : UInt8) (h : k ∉ a) : Go.Lib.cut (a ++ k :: b) [k] = (a, b, true) := by
  unfold Go.Lib.cut
  rw [Go.Lib.index_one, indexByte_at a b k h, if_pos (by omega)]
  simp only [Int.toNat_natCast, List.length_cons, List.length_nil]
  rw [List.take_left' rfl]
  have e : (a ++ k :: b).drop (a.length + (0 + 1)) = b := by
    rw [← List.drop_drop, List.drop_left' rfl]
    rfl
  rw [e]
theorem fnl_at (a r : List UInt8) (h : (10 : UInt8) ∉ a) : fnl (a ++ 10 :: r) = some a.length := by
  unfold fnl
  rw [List.findIdx?_append, List.findIdx?_eq_none_iff.2 (fun x hx => by
    rw [beq_eq_false_iff_ne]
    intro e
    exact h (e ▸ hx))]
  simp [List.findIdx?_cons]
theorem tcr_at (a : List UInt8) : tcr (a ++ [13]) = a := by
  unfold tcr
  rw [if_pos (by simp), List.dropLast_concat]
theorem cutL_line {most : Nat} {s R : List UInt8} (h10 : (10 : UInt8) ∉ s) (hl : s.length ≤ most) : cutL most (s ++ 13 :: 10 :: R) = .ok (s, s.length + 2) := by
  have e : s ++ 13 :: 10 :: R = (s ++ [13]) ++ 10 :: R := by simp
  have hno : (10 : UInt8) ∉ s ++ [13] := by
    rw [List.mem_append]
    rintro (h | h)
    · exact h10 h
    · simp at h
  have hlen : (s ++ [13]).length = s.length + 1 := by simp
  have ht : ((s ++ [13]) ++ 10 :: R).take (most + 2) = (s ++ [13]) ++ 10 :: R.take (most - s.length) := by
    rw [List.take_append, List.take_of_length_le (by rw [hlen]; omega), hlen]
    rw [show most + 2 - (s.length + 1) = (most - s.length) + 1 by omega, List.take_succ_cons]
  unfold cutL
  rw [e, ht, fnl_at _ _ hno]
  dsimp only
  rw [List.take_left' rfl, tcr_at, if_neg (by omega), hlen]
/-- a field's line without its end -/
def bod (f : FD) : List UInt8 := f.n.data.toList ++ 58 :: 32 :: f.v.data.toList
theorem lnb_bod (f : FD) (R : List UInt8) : lnb f ++ R = bod f ++ 13 :: 10 :: R := by simp [lnb, bod]
theorem bod_len (f : FD) : (bod f).length + 2 = (lnb f).length := by
  simp only [lnb, bod, List.length_append, List.length_cons, List.length_nil]
  omega
theorem tkc_not {c : UInt8} (h : tkc c = true) : c ≠ 10 ∧ c ≠ 13 ∧ c ≠ 32 ∧ c ≠ 58 := by
  refine ⟨?_, ?_, ?_, ?_⟩ <;> (rintro rfl; revert h; decide)
theorem vlc_not {c : UInt8} (h : vlc c = true) : c ≠ 10 ∧ c ≠ 13 := by
  refine ⟨?_, ?_⟩ <;> (rintro rfl; revert h; decide)
theorem vis_not {c : UInt8} (h : vis c = true) : c ≠ 10 ∧ c ≠ 32 := by
  refine ⟨?_, ?_⟩ <;> (rintro rfl; revert h; decide)
theorem tok_all {l : List UInt8} (h : tok l = true) : ∀ c ∈ l, tkc c = true := by
  unfold tok at h
  rw [Bool.and_eq_true] at h
  exact List.all_eq_true.1 h.2
theorem tgt_all {l : List UInt8} (h : tgt l = true) : ∀ c ∈ l, vis c = true := by
  unfold tgt at h
  rw [Bool.and_eq_true] at h
  exact List.all_eq_true.1 h.2
theorem bod_no {f : FD} (h : mbf f = true) : (10 : UInt8) ∉ bod f := by
  unfold mbf at h
  rw [Bool.and_eq_true] at h
  intro hm
  unfold bod at hm
  rw [List.mem_append, List.mem_cons, List.mem_cons] at hm
  rcases hm with hm | hm | hm | hm
  · exact (tkc_not (tok_all h.1 _ hm)).1 rfl
  · revert hm; decide
  · revert hm; decide
  · exact (vlc_not (List.all_eq_true.1 h.2 _ hm)).1 rfl
theorem mfl_lines : ∀ (F : List FD) (fu : Nat) (R : List UInt8), F.length < fu → (∀ f ∈ F, mbf f = true) → (lbs F).length ≤ 16384 → mfl fu (lbs F ++ 13 :: 10 :: R) = some ((lbs F).length, (lbs F).length + 2)
  | [], fu + 1, R, _, _, _ => by
    unfold mfl
    have h := cutL_line (most := 16384) (s := []) (R := R) (by simp) (by simp)
    rw [List.nil_append] at h
    show (match cutL 16384 (13 :: 10 :: R) with | .error _ => none | .ok (ln, k) => if ln = [] then some (0, k) else _) = _
    rw [h]
    rfl
  | f :: r, fu + 1, R, hf, hg, hl => by
    have e2 : lbs (f :: r) = lnb f ++ lbs r := by simp [lbs]
    have hb := bod_len f
    rw [e2, List.length_append] at hl
    have ih := mfl_lines r fu R (by simp at hf; omega) (fun g hg' => hg g (List.mem_cons_of_mem _ hg')) (by omega)
    have hc := cutL_line (most := 16384) (s := bod f) (R := lbs r ++ 13 :: 10 :: R) (bod_no (hg f (List.mem_cons_self ..))) (by omega)
    unfold mfl
    rw [e2, List.append_assoc, lnb_bod, hc]
    dsimp only
    have hne : bod f ≠ [] := by simp [bod]
    rw [if_neg hne]
    have hd : (bod f ++ 13 :: 10 :: (lbs r ++ 13 :: 10 :: R)).drop ((bod f).length + 2) = lbs r ++ 13 :: 10 :: R := by
      rw [← List.drop_drop, List.drop_left' rfl]
      rfl
    rw [hd, ih]
    rw [List.length_append, ← hb]
    show some ((bod f).length + 2 + (lbs r).length, (bod f).length + 2 + ((lbs r).length + 2)) = _
    rw [Nat.add_assoc ((bod f).length + 2)]
theorem mF_lines {F : List FD} {R : List UInt8} (hg : ∀ f ∈ F, mbf f = true) (hl : szs F ≤ 16384) : mF (lbs F ++ 13 :: 10 :: R) = .ok ((lbs F).length, (lbs F).length + 2) := by
  have h1 := lbs_len F
  have h2 := szs_len F
  have ht : (lbs F ++ 13 :: 10 :: R).take 16384 = lbs F ++ 13 :: 10 :: R.take (16384 - ((lbs F).length + 2)) := by
    rw [List.take_append, List.take_of_length_le (by omega)]
    rw [show 16384 - (lbs F).length = (16384 - ((lbs F).length + 2)) + 1 + 1 by omega, List.take_succ_cons, List.take_succ_cons]
  unfold mF
  rw [ht, mfl_lines F _ _ (by simp only [List.length_append, List.length_cons]; omega) hg (by omega)]
theorem cHd_prt {st : List UInt8} {F : List FD} {R : List UInt8} (h10 : (10 : UInt8) ∉ st) (hs : st.length ≤ 8000) (hg : ∀ f ∈ F, mbf f = true) (hl : szs F ≤ 16384) : cHd 9 (st ++ 13 :: 10 :: (lbs F ++ 13 :: 10 :: R)) = .ok (st, lbs F, st.length + 2 + ((lbs F).length + 2)) := by
  unfold cHd
  rw [cutL_line h10 hs]
  dsimp only
  have hd : (st ++ 13 :: 10 :: (lbs F ++ 13 :: 10 :: R)).drop (st.length + 2) = lbs F ++ 13 :: 10 :: R := by
    rw [← List.drop_drop, List.drop_left' rfl]
    rfl
  rw [hd, mF_lines hg hl]
  dsimp only
  rw [List.take_left' rfl]
/-- no blank stands at its ends -/
def blk (c : UInt8) : Bool := bks.data.toList.contains c
def tidy (v : List UInt8) : Prop := (∀ x, v.head? = some x → blk x = false) ∧ (∀ x, v.getLast? = some x → blk x = false)
theorem trm_def (v : List UInt8) : trm v = ((v.reverse.dropWhile blk).reverse).dropWhile blk := rfl
theorem dw_tidy {v : List UInt8} (h : ∀ x, v.head? = some x → blk x = false) : v.dropWhile blk = v := by
  cases v with
  | nil => rfl
  | cons x r =>
    rw [List.dropWhile_cons, h x rfl]
    rfl
theorem dw_head (v : List UInt8) : ∀ x, (v.dropWhile blk).head? = some x → blk x = false := by
  induction v with
  | nil => intro x h; cases h
  | cons y r ih =>
    intro x h
    rw [List.dropWhile_cons] at h
    cases hy : blk y with
    | true =>
      rw [hy] at h
      exact ih x h
    | false =>
      rw [hy] at h
      injection h with h
      rw [← h]
      exact hy
theorem trm_id {v : List UInt8} (h : tidy v) : trm v = v := by
  rw [trm_def, dw_tidy (v := v.reverse) (by intro x hx; rw [List.head?_reverse] at hx; exact h.2 x hx), List.reverse_reverse, dw_tidy h.1]
theorem trm_sp {v : List UInt8} (h : tidy v) : trm (32 :: v) = v := by
  by_cases hv : v = []
  · subst hv
    decide
  · have e : (32 :: v).reverse.dropWhile blk = (32 :: v).reverse := dw_tidy (by
      intro x hx
      rw [List.head?_reverse] at hx
      refine h.2 x ?_
      rw [List.getLast?_cons] at hx
      rw [List.getLast?_eq_some_getLast hv] at hx ⊢
      simpa using hx)
    rw [trm_def, e, List.reverse_reverse, List.dropWhile_cons, if_pos (by decide), dw_tidy h.1]
theorem trm_tidy (v : List UInt8) : tidy (trm v) := by
  refine ⟨fun x hx => ?_, fun x hx => ?_⟩
  · rw [trm_def] at hx
    exact dw_head _ x hx
  · rw [trm_def] at hx
    refine dw_head v.reverse x ?_
    have h1 := List.takeWhile_append_dropWhile (p := blk) (l := (v.reverse.dropWhile blk).reverse)
    have h2 : ((v.reverse.dropWhile blk).reverse).getLast? = some x := by
      rw [← h1, List.getLast?_append, hx]
      rfl
    rw [List.getLast?_reverse] at h2
    exact h2
/-- a field that is read back as it is -/
def gud (f : FD) : Prop := mbf f = true ∧ tidy f.v.data.toList
theorem cut_bod {f : FD} (h : mbf f = true) : Go.Lib.cut (bod f) [58] = (f.n.data.toList, 32 :: f.v.data.toList, true) := by
  unfold mbf at h
  rw [Bool.and_eq_true] at h
  exact cut_at _ _ 58 (fun hm => (tkc_not (tok_all h.1 _ hm)).2.2.2 rfl)
theorem fln_bod {f : FD} (h : gud f) : fln (bod f ++ [13]) = f := by
  unfold fln c1 c2
  rw [tcr_at, cut_bod h.1]
  dsimp only
  rw [trm_sp h.2]
theorem fok_bod {f : FD} (h : gud f) : fok (bod f ++ [13]) = true := by
  have h1 := h.1
  unfold mbf at h1
  unfold fok c1 c2
  rw [tcr_at, cut_bod h.1]
  dsimp only
  rw [trm_sp h.2, h1]
  rfl
theorem lbs_join (F : List FD) : lbs F = joinL (F.map fun f => bod f ++ [13]) := by
  induction F with
  | nil => rfl
  | cons f r ih =>
    rw [List.map_cons, joinL_cons, ← ih]
    have := lnb_bod f (lbs r)
    simp only [lbs, List.flatMap_cons] at this ⊢
    rw [this]
    simp
theorem lbs_lines {F : List FD} (h : ∀ f ∈ F, mbf f = true) : linesOf (lbs F) = F.map fun f => bod f ++ [13] := by
  rw [lbs_join]
  refine lines_join _ fun x hx => ?_
  obtain ⟨f, hf, rfl⟩ := List.mem_map.1 hx
  rw [List.mem_append]
  rintro (h1 | h1)
  · exact bod_no (h f hf) h1
  · simp at h1
theorem lbs_count {F : List FD} (h : ∀ f ∈ F, mbf f = true) : Go.Lib.countByte (lbs F) 10 = F.length := by
  unfold Go.Lib.countByte
  induction F with
  | nil => rfl
  | cons f r ih =>
    have e2 : lbs (f :: r) = bod f ++ 13 :: 10 :: lbs r := by
      have : lbs (f :: r) = lnb f ++ lbs r := by simp [lbs]
      rw [this, lnb_bod]
    rw [e2, List.count_append, List.count_eq_zero_of_not_mem (bod_no (h f (List.mem_cons_self ..)))]
    have ih' := ih (fun g hg => h g (List.mem_cons_of_mem _ hg))
    rw [List.count_cons, List.count_cons, ih', List.length_cons]
    simp
theorem rdf_lbs {F : List FD} (h : ∀ f ∈ F, gud f) (hl : F.length ≤ 64) : rdf (lbs F) = .ok F := by
  have hm : ∀ f ∈ F, mbf f = true := fun f hf => (h f hf).1
  unfold rdf
  rw [lbs_count hm, if_neg (by omega), lbs_lines hm, if_pos ?_]
  · rw [List.map_map]
    congr 1
    have : ∀ f ∈ F, (fln ∘ fun f => bod f ++ [13]) f = f := fun f hf => fln_bod (h f hf)
    rw [List.map_congr_left this, List.map_id']
  · rw [List.all_map, List.all_eq_true]
    intro f hf
    exact fok_bod (h f hf)
end Go.Proofs.YtbgjnghjddcooaaGreatDoor
namespace Go.Proofs.YtbgjnghjddcooaaGreatDoor
open Go.RowKit Go.Shelf TextNum
theorem mnr_or {mi : Int} (h : mnr mi = true) : mi = 0 ∨ mi = 1 := by
  unfold mnr at h
  rw [Bool.or_eq_true] at h
  rcases h with h | h
  · exact .inl (by simpa using h)
  · exact .inr (by simpa using h)
theorem vtx_facts {mi : Int} (h : mnr mi = true) : vok (vtx mi) = true ∧ mno ⟨(vtx mi).toArray⟩ = .ok mi ∧ (10 : UInt8) ∉ vtx mi := by
  rcases mnr_or h with rfl | rfl
  · rw [show vtx 0 = [72, 84, 84, 80, 47, 49, 46, 48] by decide +kernel]
    exact ⟨by decide +kernel, by unfold mno; rw [if_pos (by decide +kernel)], by decide +kernel⟩
  · rw [show vtx 1 = [72, 84, 84, 80, 47, 49, 46, 49] by decide +kernel]
    exact ⟨by decide +kernel, by unfold mno; rw [if_neg (by decide +kernel), if_pos (by decide +kernel)], by decide +kernel⟩
theorem rql_frS {m t : ByteArray} {mi : Int} (hm : tok m.data.toList = true) (ht : tgt t.data.toList = true) (hk : mtk m = true) (hi : mnr mi = true) : rql (frS m t mi) = .ok (m.data.toList, t.data.toList, mi) := by
  obtain ⟨h1, h2, _⟩ := vtx_facts hi
  have e : frS m t mi = m.data.toList ++ 32 :: (t.data.toList ++ 32 :: vtx mi) := by simp [frS]
  have k1 := cut_at m.data.toList (t.data.toList ++ 32 :: vtx mi) 32 (fun h => (tkc_not (tok_all hm _ h)).2.2.1 rfl)
  have k2 := cut_at t.data.toList (vtx mi) 32 (fun h => (vis_not (tgt_all ht _ h)).2 rfl)
  have e1 : c1 32 (frS m t mi) = m.data.toList := by unfold c1; rw [e, k1]
  have e2 : c2 32 (frS m t mi) = t.data.toList ++ 32 :: vtx mi := by unfold c2; rw [e, k1]
  have e3 : c1 32 (t.data.toList ++ 32 :: vtx mi) = t.data.toList := by unfold c1; rw [k2]
  have e4 : c2 32 (t.data.toList ++ 32 :: vtx mi) = vtx mi := by unfold c2; rw [k2]
  unfold rql
  rw [e1, e2, e3, e4, hm, ht, h1, h2, if_neg (by simp), if_neg (by rw [hk]; simp)]
theorem frS_no {m t : ByteArray} {mi : Int} (hm : tok m.data.toList = true) (ht : tgt t.data.toList = true) (hi : mnr mi = true) : (10 : UInt8) ∉ frS m t mi := by
  obtain ⟨_, _, h3⟩ := vtx_facts hi
  unfold frS
  simp only [List.mem_append, List.mem_cons, List.not_mem_nil, or_false]
  rintro ((((h | h) | h) | h) | h)
  · exact (tkc_not (tok_all hm _ h)).1 rfl
  · revert h; decide
  · exact (vis_not (tgt_all ht _ h)).1 rfl
  · revert h; decide
  · exact h3 h
theorem frS_len (m t : ByteArray) (mi : Int) : (frS m t mi).length = m.size + 1 + t.size + 1 + (vtx mi).length := by
  have h1 := Go.Lib.size_eq m
  have h2 := Go.Lib.size_eq t
  simp only [frS, List.length_append, List.length_cons, List.length_nil]
  omega
theorem dig_facts {c : UInt8} (h : TextNum.isD c = true) : vlc c = true ∧ blk c = false := by
  have hh := TextNum.isD_iff.1 h
  constructor
  · unfold vlc ctl
    have h1 : ¬ c.toNat < 32 := by omega
    have h2 : ¬ c.toNat = 127 := by omega
    simp [h1, h2]
  · unfold blk bks
    have h1 : c ≠ 32 := by rintro rfl; revert h; decide
    have h2 : c ≠ 9 := by rintro rfl; revert h; decide
    simp [h1, h2]
theorem lnf_gud (n : Nat) : gud (lnf n) := by
  have hv : (lnf n).v.data.toList = Go.Lib.decDigits n := by
    show Go.Lib.itoa (n : Int) = _
    exact itoa_nat n
  have hall := dec_all n
  rw [List.all_eq_true] at hall
  refine ⟨?_, ?_⟩
  · unfold mbf
    rw [hv]
    have h1 : tok (lnf n).n.data.toList = true := by show tok ctlN.data.toList = true; decide +kernel
    rw [h1, Bool.true_and]
    unfold vlu
    rw [List.all_eq_true]
    intro c hc
    exact (dig_facts (hall c hc)).1
  · rw [hv]
    refine ⟨fun x hx => ?_, fun x hx => ?_⟩
    · exact (dig_facts (hall x (List.mem_of_head? hx))).2
    · exact (dig_facts (hall x (List.mem_of_getLast? hx))).2
theorem tfd_n (f : FD) : (tfd f).n = f.n := rfl
theorem pfs_tidy {fs : List FD} {f : FD} (h : f ∈ pfs fs) : tidy f.v.data.toList ∧ tls f = false := by
  unfold pfs at h
  obtain ⟨g, hg, rfl⟩ := List.mem_map.1 h
  have hk := (List.mem_filter.1 hg).2
  refine ⟨trm_tidy _, ?_⟩
  unfold kep at hk
  unfold tls
  rw [tfd_n]
  simpa using hk
theorem ckf_none {fs : List FD} (h : ckf fs = none) : fs.length ≤ 64 ∧ ∀ f ∈ fs, mbf f = true := by
  unfold ckf at h
  split at h
  · cases h
  · split at h
    · cases h
    · rename_i h1 h2
      refine ⟨by omega, ?_⟩
      rw [Bool.not_eq_false] at h2
      exact List.all_eq_true.1 h2
theorem ckq_none {m t : ByteArray} {mi : Int} {fs : List FD} {nb : Nat} (h : ckq m t mi fs nb = none) : tok m.data.toList = true ∧ tgt t.data.toList = true ∧ mtk m = true ∧ mnr mi = true ∧ ckf fs = none ∧ ckh fs mi = none := by
  unfold ckq at h
  repeat' split at h
  all_goals first
    | (cases h; done)
    | (refine ⟨?_, ?_, ?_, ?_, ?_, ?_⟩ <;> simp_all)
theorem frl_itoa {n : Nat} (h : n ≤ 1048576) : frl (Go.Lib.itoa (n : Int)) = .ok (2, n) := by
  have hlen := itoa_len (n : Int) (by omega) (by omega)
  have hp : prs (Go.Lib.itoa (n : Int)) 1048576 = ((n : Int), 0) := by
    have hn := nv_dec n
    have e := itoa_nat n
    rw [prs_ok (by omega) (by rw [e]; exact isN_dec n) (by rw [e, hn]; omega) (by rw [e, hn]; omega), e, hn]
  unfold frl
  rw [hp, if_pos rfl]
  simp
theorem lnf_tls (n : Nat) : tls (lnf n) = true ∧ isc (lnf n) = false := by
  have h : kdf (lnf n).n = 4 := by show kdf ctlN = 4; decide +kernel
  unfold tls isc
  rw [h]
  decide
theorem tls_isc {f : FD} (h : tls f = false) : isc f = false := by
  unfold tls at h
  unfold isc
  rw [Bool.or_eq_false_iff] at h
  exact h.1
theorem pfs_count (fs : List FD) : (pfs fs).countP tls = 0 := by
  rw [List.countP_eq_zero]
  intro f hf
  rw [(pfs_tidy hf).2]
  simp
theorem frm_frF {fs : List FD} {mi : Int} {n : Nat} (h : n ≤ 1048576) : frm (frF fs n) mi 0 = if 0 < n then .ok (2, n) else .ok (0, 0) := by
  have hc := pfs_count fs
  have hi : (pfs fs).any isc = false := by
    rw [List.any_eq_false]
    intro f hf
    rw [tls_isc (pfs_tidy hf).2]
    simp
  have hb : ∀ F : List FD, F.any isc = false → F.any (bdc mi) = false := by
    intro F hF
    rw [List.any_eq_false] at hF ⊢
    intro f hf
    unfold bdc
    have := hF f hf
    simp only [Bool.not_eq_true] at this
    rw [this]
    simp
  unfold frm frF
  by_cases h0 : 0 < n
  · obtain ⟨k1, k2⟩ := lnf_tls n
    have ha : (pfs fs ++ [lnf n]).any isc = false := by rw [List.any_append, hi]; simp [k2]
    have hcn : (pfs fs ++ [lnf n]).countP tls = 1 := by rw [List.countP_append, hc]; simp [k1]
    rw [if_pos h0, if_pos h0, hb _ ha, ha, hcn, if_neg (by simp), if_neg (by omega), if_neg (by omega), if_neg (by simp), lst_yes k1]
    exact frl_itoa h
  · rw [if_neg h0, if_neg h0, hb _ hi, hc, if_neg (by simp), if_neg (by omega), if_pos rfl]
/-- what is printed is read back whole -/
theorem rqP_prt {m t : ByteArray} {mi : Int} {fs : List FD} {bd : List UInt8} (h : ckq m t mi (frF fs bd.length) bd.length = none) (tl : List UInt8) :
    rqP (prt (frS m t mi) (frF fs bd.length) bd ++ tl) = .ok ((⟨m.data.toList, t.data.toList, mi, frF fs bd.length⟩, bd), (prt (frS m t mi) (frF fs bd.length) bd).length) := by
  obtain ⟨h1, h2, h3⟩ := ckq_ok h
  obtain ⟨k1, k2, k3, k4, k5, k6⟩ := ckq_none h
  obtain ⟨f1, f2⟩ := ckf_none k5
  have hg : ∀ f ∈ frF fs bd.length, gud f := by
    intro f hf
    refine ⟨f2 f hf, ?_⟩
    unfold frF at hf
    split at hf
    · rcases List.mem_append.1 hf with hf | hf
      · exact (pfs_tidy hf).1
      · rw [List.mem_singleton.1 hf]
        exact (lnf_gud _).2
    · exact (pfs_tidy hf).1
  have hfr := frm_frF (fs := fs) (mi := mi) h3
  generalize frF fs bd.length = F at *
  have hsl := frS_len m t mi
  have hno := frS_no (m := m) (t := t) (mi := mi) k1 k2 k4
  have hrl := rql_frS k1 k2 k3 k4
  have e : prt (frS m t mi) F bd ++ tl = frS m t mi ++ 13 :: 10 :: (lbs F ++ 13 :: 10 :: (bd ++ tl)) := by simp [prt]
  have el : (prt (frS m t mi) F bd).length = (frS m t mi).length + 2 + ((lbs F).length + 2) + bd.length := by
    simp only [prt, List.length_append, List.length_cons, List.length_nil]
    omega
  rw [el]
  generalize frS m t mi = st at *
  have hd : (st ++ 13 :: 10 :: (lbs F ++ 13 :: 10 :: (bd ++ tl))).drop (st.length + 2 + ((lbs F).length + 2)) = bd ++ tl := by
    have e2 : st ++ 13 :: 10 :: (lbs F ++ 13 :: 10 :: (bd ++ tl)) = (st ++ 13 :: 10 :: (lbs F ++ [13, 10])) ++ (bd ++ tl) := by simp
    rw [e2]
    refine List.drop_left' ?_
    simp only [List.length_append, List.length_cons, List.length_nil]
    omega
  unfold rqP msg
  rw [e, cHd_prt hno (by omega) f2 h2]
  dsimp only
  have hrg : rqg st (lbs F) = .ok (⟨m.data.toList, t.data.toList, mi, F⟩, if 0 < bd.length then 2 else 0, bd.length) := by
    unfold rqg
    rw [hrl]
    dsimp only
    rw [rdf_lbs hg f1]
    dsimp only
    rw [k6]
    dsimp only
    rw [hfr]
    by_cases hb0 : 0 < bd.length
    · rw [if_pos hb0, if_pos hb0]
    · rw [if_neg hb0, if_neg hb0]
      have hbz : bd.length = 0 := by omega
      rw [hbz]
  rw [hrg]
  dsimp only
  rw [hd]
  have hfc : fcu (if 0 < bd.length then 2 else 0) bd.length (bd ++ tl) = .ok (bd, bd.length) := by
    split
    · unfold fcu
      rw [if_neg (by decide), if_neg (by decide), if_pos rfl, if_neg (by simp), List.take_left' rfl]
    · have h0 : bd = [] := List.eq_nil_of_length_eq_zero (by omega)
      subst h0
      unfold fcu
      rw [if_neg (by decide), if_neg (by decide), if_neg (by decide)]
      rfl
  rw [hfc]
end Go.Proofs.YtbgjnghjddcooaaGreatDoor
namespace Go.Proofs.YtbgjnghjddcooaaGreatDoor
open Go.RowKit TextNum
/-- texts that are given -/
structure StL (w : World) (a : Option Addr) (ss : List ByteArray) (c : Nat) : Prop where
  cap : ss.length ≤ c
  cells : ∀ i (h : i < ss.length), ∃ b off, a = some ⟨b, off, none⟩ ∧ w.cell? ⟨b, off + i, none⟩ = some (.string ss[i])
theorem StL.up {w w' : World} {a : Option Addr} {ss : List ByteArray} {c : Nat} (h : StL w a ss c) (u : Up w w') : StL w' a ss c :=
  ⟨h.cap, fun i hi => by obtain ⟨b, off, e, k⟩ := h.cells i hi; exact ⟨b, off, e, u.cell k⟩⟩
def vat (ss : List ByteArray) (i : Nat) : ByteArray := ss.getD i ⟨#[]⟩
set_option maxRecDepth 100000 in
theorem value_walk (a : Option Addr) (ss : List ByteArray) (c i : Nat) (w : World) (h : StL w a ss c) : Calls Tryz.prog 38 #[.slice a ss.length c, .int .i64 (i : Int)] w fun e w' => e = .returned (.string (vat ss i)) ∧ w' = w := by
  have hcap := h.cap
  by_cases hi : i < ss.length
  · obtain ⟨b, off, rfl, k⟩ := h.cells i hi
    have hz : (i : Int) < (ss.length : Int) := by omega
    have HV := Hid.of (show vat ss i = ss[i] by unfold vat; rw [List.getD_eq_getElem?_getD, List.getElem?_eq_getElem hi]; rfl)
    rw [HV.out]
    generalize ss[i] = x at *
    clear h
    go_enter Tryz.func38, Tryz.ntmps38
    go_wp2
    go_ret
    exact ⟨rfl, rfl⟩
  · have hz : ¬ (i : Int) < (ss.length : Int) := by omega
    have HV := Hid.of (show vat ss i = ⟨#[]⟩ by unfold vat; rw [List.getD_eq_getElem?_getD, List.getElem?_eq_none (by omega)]; rfl)
    rw [HV.out]
    clear h
    go_enter Tryz.func38, Tryz.ntmps38
    go_wp2
    go_ret
    exact ⟨rfl, rfl⟩
/-- one byte is appended -/
theorem wpList_app1 {w : World} {N q : Nat} {ops : Array Oper} {rest : List Oper} {o : Oper} {a : Act} {Q : Exit → Act → World → Prop} (hgd : o.guard = none) (x y : Operand)
    (ho : o.op = .call { callee := .builtin .append, args := #[x, y], argTypes := #[22, 22] }) (ax : Option Addr) (cx : Nat) (xs : List UInt8) (b : UInt8) (hx : a.eval x = .slice ax q cx) (hy : a.eval y = .slice (some ⟨w.heap.size, 0, none⟩) 1 1)
    (hR : w.ownsRow N 5 1 (.slice ax q cx) q (cb xs)) (hNw : N ≤ w.heap.size) (hql : q ≤ 1099511627776)
    (K : ∀ ax2 cx2 w', w'.ownsRow N 5 1 (.slice ax2 (q + 1) cx2) (q + 1) (cb (xs ++ [b])) → (∀ W, Up W w → W.heap.size ≤ N → Up W w') → w.grownBy w' (Value.slice ax q cx).ownBlock → wpList Tryz.prog ops Q rest (a.put o.dst (.slice ax2 (q + 1) cx2)) w') :
    wpList Tryz.prog ops Q (o :: rest) a (w.alloc (.cells #[.int .u8 (b.toNat : Int)] 5)) := by
  obtain ⟨i0, hi0, hz0, hz1, hz2⟩ := info_parts Tryz.infoU8
  have HUx := (Up.refl w).alloc (.cells #[.int .u8 (b.toNat : Int)] 5)
  refine wpList_append_frs hgd x y 22 ho N 5 i0 (.int .u8 0) 1 Tryz.underlying22 hi0 hz0 hz1 hz2 rfl _ q _ hx (ow_up hR HUx) ⟨w.heap.size, 0, none⟩ 1 1 [.int .u8 (b.toNat : Int)] hy rfl ?_ ?_ (by simp only [maxLen]; omega) (by omega) (Nat.le_trans hNw HUx.size) ?_
  · intro j u hu
    rw [Addr.add_lit]
    exact At.cell (at_new w 5 [.int .u8 (b.toNat : Int)]) (i := 0 + j) (by rw [Nat.zero_add]; exact hu)
  · intro u hu
    obtain rfl := List.mem_singleton.1 hu
    rfl
  · intro v8 w8 o8 g8 _
    obtain ⟨a4, c4, rfl⟩ := row_len o8
    refine K a4 c4 w8 (by rw [cb_snoc]; exact o8) (fun W hU hW => up_grownBy (hU.trans HUx) g8 (fun g hg => Nat.le_trans hW (World.ownsRow.lt hR g hg).1)) (up_grown HUx g8)
set_option maxRecDepth 100000 in
set_option maxHeartbeats 1000000 in
/-- the law's own lower -/
theorem lowerL_walk (s : ByteArray) (w : World) (hs : s.size ≤ 1099511627776) : Calls Tryz.prog 40 #[.string s] w fun e w' => e = .returned (.string ⟨(lws s.data.toList).toArray⟩) ∧ Up w w' := by
  have HS := Hid.of (show s.size = s.data.toList.length from Go.Lib.size_eq s)
  go_enter Tryz.func40, Tryz.ntmps40
  go_wp2
  go_loopw [3, 4] (fun v3 v4 wr => ∃ i : Nat, v4 = .int .i64 (i : Int) ∧ i ≤ s.size ∧ ∃ a3 c3, v3 = .slice a3 i c3 ∧ Hid (wr.ownsRow w.heap.size 5 1 (.slice a3 i c3) i (cb (lws (s.data.toList.take i))) ∧ Up w wr)) (fun _ v4 _ => s.size - (intOf v4).toNat)
  case atStart => exact ⟨0, rfl, Nat.zero_le _, none, 0, rfl, Hid.of ⟨World.ownsRow_nil _ _ _ _, Up.refl _⟩⟩
  case round =>
    obtain ⟨i, rfl, hi, a3, c3, rfl, hQ⟩ := hrel
    have HQ := Hid.of hQ.out
    clear hQ
    by_cases hil : i < s.size
    · have hilz : (i : Int) < (s.size : Int) := by omega
      have hg := sget' s i hil
      have HT := Hid.of (lws_take (l := s.data.toList) (i := i) (by rw [← HS.out]; exact hil))
      generalize s.data.toList[i]'(by rw [← HS.out]; exact hil) = x at *
      have hx := x.toNat_lt
      by_cases h1 : 65 ≤ x.toNat
      · have z1 : (65 : Int) ≤ (x.toNat : Int) := by omega
        by_cases h2 : x.toNat ≤ 90
        · have z2 : (x.toNat : Int) ≤ 90 := by omega
          have HL := Hid.of (lw_yes h1 h2)
          go_wp2_with (with_reducible show wpList _ _ _ ({ dst := _, op := Op.call { callee := Callee.builtin Builtin.append, args := _, argTypes := _ }, type := _, pos := _, after := _, guard := _ } :: _) _ _; refine Shut.out ?_)
          show wpList _ _ _ _ _ _
          rw [show (x.toNat : Int) + 32 = ((lw x).toNat : Int) by rw [HL.out]; omega]
          refine wpList_app1 (N := w.heap.size) rfl _ _ rfl a3 c3 (lws (s.data.toList.take i)) (lw x) rfl rfl HQ.out.1 HQ.out.2.size (by omega) ?_
          intro a4 c4 w4 o4 u4 _
          have HO4 := Hid.of (And.intro (show w4.ownsRow w.heap.size 5 1 (.slice a4 (i + 1) c4) (i + 1) (cb (lws (s.data.toList.take (i + 1)))) by rw [HT.out]; exact o4) (u4 w HQ.out.2 (Nat.le_refl _)))
          clear o4 u4
          simp only [Act.put, List.setIfInBounds_toArray, List.set_cons_zero, List.set_cons_succ]
          go_wp2
          go_roundw
          all_goals first
            | exact ⟨i + 1, by go_num, by omega, a4, c4, rfl, HO4⟩
            | (simp [intOf]; omega)
        · have z2 : ¬ (x.toNat : Int) ≤ 90 := by omega
          have HL := Hid.of (show lw x = x from lw_no (by omega))
          go_wp2_with (with_reducible show wpList _ _ _ ({ dst := _, op := Op.call { callee := Callee.builtin Builtin.append, args := _, argTypes := _ }, type := _, pos := _, after := _, guard := _ } :: _) _ _; refine Shut.out ?_)
          show wpList _ _ _ _ _ _
          refine wpList_app1 (N := w.heap.size) rfl _ _ rfl a3 c3 (lws (s.data.toList.take i)) x rfl rfl HQ.out.1 HQ.out.2.size (by omega) ?_
          intro a4 c4 w4 o4 u4 _
          have HO4 := Hid.of (And.intro (show w4.ownsRow w.heap.size 5 1 (.slice a4 (i + 1) c4) (i + 1) (cb (lws (s.data.toList.take (i + 1)))) by rw [HT.out]; rw [HL.out]; exact o4) (u4 w HQ.out.2 (Nat.le_refl _)))
          clear o4 u4
          simp only [Act.put, List.setIfInBounds_toArray, List.set_cons_zero, List.set_cons_succ]
          go_wp2
          go_roundw
          all_goals first
            | exact ⟨i + 1, by go_num, by omega, a4, c4, rfl, HO4⟩
            | (simp [intOf]; omega)
      · have z1 : ¬ (65 : Int) ≤ (x.toNat : Int) := by omega
        have HL := Hid.of (show lw x = x from lw_no (by omega))
        go_wp2_with (with_reducible show wpList _ _ _ ({ dst := _, op := Op.call { callee := Callee.builtin Builtin.append, args := _, argTypes := _ }, type := _, pos := _, after := _, guard := _ } :: _) _ _; refine Shut.out ?_)
        show wpList _ _ _ _ _ _
        refine wpList_app1 (N := w.heap.size) rfl _ _ rfl a3 c3 (lws (s.data.toList.take i)) x rfl rfl HQ.out.1 HQ.out.2.size (by omega) ?_
        intro a4 c4 w4 o4 u4 _
        have HO4 := Hid.of (And.intro (show w4.ownsRow w.heap.size 5 1 (.slice a4 (i + 1) c4) (i + 1) (cb (lws (s.data.toList.take (i + 1)))) by rw [HT.out]; rw [HL.out]; exact o4) (u4 w HQ.out.2 (Nat.le_refl _)))
        clear o4 u4
        simp only [Act.put, List.setIfInBounds_toArray, List.set_cons_zero, List.set_cons_succ]
        go_wp2
        go_roundw
        all_goals first
          | exact ⟨i + 1, by go_num, by omega, a4, c4, rfl, HO4⟩
          | (simp [intOf]; omega)
    · have hilz : ¬ (i : Int) < (s.size : Int) := by omega
      have HT := Hid.of (show s.data.toList.take i = s.data.toList from List.take_of_length_le (by rw [← HS.out]; omega))
      have hil2 : (lws (s.data.toList.take i)).length = i := by rw [lws_len, HT.out, ← HS.out]; omega
      have hSb : Sb wr (.slice a3 i c3) (lws (s.data.toList.take i)) := Ow.sb (B := w.heap.size) (by unfold Ow; rw [hil2]; exact HQ.out.1)
      have hcv := conv_sb2 hSb
      rw [HT.out] at hcv
      clear hSb hil2
      go_wp2
      go_ret
      exact ⟨rfl, HQ.out.2⟩
/-- the law's fields -/
def mkF (ns vs : List ByteArray) : List FD := ns.zipIdx.map fun p => ⟨p.1, vat vs p.2⟩
theorem mkF_len (ns vs : List ByteArray) : (mkF ns vs).length = ns.length := by simp [mkF]
theorem mkF_get {ns vs : List ByteArray} {i : Nat} (h : i < ns.length) (h' : i < (mkF ns vs).length) : (mkF ns vs)[i] = ⟨ns[i], vat vs i⟩ := by
  simp [mkF]
end Go.Proofs.YtbgjnghjddcooaaGreatDoor
namespace Go.Proofs.YtbgjnghjddcooaaGreatDoor
open Go.RowKit Go.Shelf TextNum
theorem grown_set1 (W : World) (b o : Nat) (v : Value) : W.grownBy (W.setCell ⟨b, o, none⟩ v) (some b) :=
  ⟨rfl, rfl, rfl, (KeepsWalks.setCell W _ v).size, fun k _ hk => Below.heap_setCell _ _ _ k (fun e => hk (by rw [e]))⟩
set_option maxRecDepth 100000 in
set_option maxHeartbeats 8000000 in
theorem request_walk (m t : ByteArray) (mi : Int) (an : Option Addr) (ns : List ByteArray) (cn : Nat) (av : Option Addr) (us : List ByteArray) (cv : Nat) (ab : Option Addr) (nb cb' : Nat) (bd : List UInt8) (pad : Int) (w : World) (hN : StL w an ns cn) (hV : StL w av us cv) (hB : Sb w (.slice ab nb cb') bd) (hnl : ns.length ≤ 1048576) (hbl : bd.length ≤ 1048576) :
    Calls Tryz.prog 20 #[.agg #[.string m, .string t, .int .i64 mi, .slice an ns.length cn, .slice av us.length cv, .slice ab nb cb', .int .i64 pad]] w fun e w' => (∃ a c v, e = .returned (.agg #[.string m, .string t, .int .i64 mi, .slice a ns.length c, v, .bool false]) ∧ Hid (FdO w' w.heap.size a (mkF ns us) c ∧ Ow w' w.heap.size v (pdd bd pad))) ∧ Up w w' := by
  have HN := Hid.of hN
  have HV := Hid.of hV
  have HB := Hid.of hB
  have hcap := hN.cap
  have hcapv := hV.cap
  obtain ⟨hbn, hbc, hbm⟩ := hB.len
  unfold maxLen at hbm
  clear hN hV hB hbn
  obtain ⟨F, hF⟩ : ∃ F, mkF ns us = F := ⟨_, rfl⟩
  have HFl := Hid.of (show F.length = ns.length by rw [← hF, mkF_len])
  have HFg := Hid.of (show ∀ i (h : i < ns.length) (h' : i < F.length), F[i] = ⟨ns[i], vat us i⟩ by subst hF; exact fun i h h' => mkF_get h h')
  rw [hF]
  clear hF
  have HA0 := Hid.of ((at_new w 52 [.string m, .string t, .int .i64 mi, .slice an ns.length cn, .slice av us.length cv, .slice ab nb cb', .int .i64 pad]).up ((Up.refl _).alloc (.cells z6.toArray 27)))
  have HZ0 := Hid.of (at_new (w.alloc (.cells [.string m, .string t, .int .i64 mi, .slice an ns.length cn, .slice av us.length cv, .slice ab nb cb', .int .i64 pad].toArray 52)) 27 z6)
  have HU0 := Hid.of (((Up.refl w).alloc (.cells [.string m, .string t, .int .i64 mi, .slice an ns.length cn, .slice av us.length cv, .slice ab nb cb', .int .i64 pad].toArray 52)).alloc (.cells z6.toArray 27))
  rw [alloc_size] at HZ0
  go_enter Tryz.func20, Tryz.ntmps20
  go_wp2
  obtain ⟨w1, hw1⟩ : ∃ w1, (w.alloc (.cells [.string m, .string t, .int .i64 mi, .slice an ns.length cn, .slice av us.length cv, .slice ab nb cb', .int .i64 pad].toArray 52)).alloc (.cells z6.toArray 27) = w1 := ⟨_, rfl⟩
  have HS1 := Hid.of (show w.heap.size + 1 < w1.heap.size by rw [← hw1, alloc_size, alloc_size]; omega)
  rw [hw1] at HA0 HU0 HZ0
  change Code.wp _ _ _ _ ((w.alloc (.cells [.string m, .string t, .int .i64 mi, .slice an ns.length cn, .slice av us.length cv, .slice ab nb cb', .int .i64 pad].toArray 52)).alloc (.cells z6.toArray 27))
  rw [hw1]
  clear hw1
  refine wp_region_held_drew (S := fun w2 => At w2 w.heap.size 52 [.string m, .string t, .int .i64 mi, .slice an ns.length cn, .slice av us.length cv, .slice ab nb cb', .int .i64 pad] ∧ At w2 (w.heap.size + 1) 27 z6 ∧ Up w w2) (by kernel_rfl) ⟨HA0.out.up (Up.refl _).drew, HZ0.out.up (Up.refl _).drew, HU0.out.drew⟩ (fun hS => ?_)
  refine wpAnyH_take (i := 0) (oi := { dst := some 5, op := Go.Op.fieldAddr 52 (Go.Operand.tmp 1) 0, type := 0, pos := "law.go:106", after := #[], guard := none }) (v := .pointer (some ⟨w.heap.size, 0, none⟩)) rfl (by kernel_rfl) (by kernel_rfl) (by kernel_rfl) (fun _ _ _ h => h) (Or.inl ⟨by kernel_rfl, ?_⟩) hS ?_
  · intro w5 hSw
    clear hSw hS
    go_simp
  simp only [Act.put, List.setIfInBounds_toArray, List.set_cons_zero, List.set_cons_succ]
  refine wpAnyH_take (i := 1) (oi := { dst := some 6, op := Go.Op.load 9 (Go.Operand.tmp 5), type := 9, pos := "law.go:106", after := #[{ on := 0, ground := Go.Ground.data }], guard := none }) (v := .string m) rfl (by kernel_rfl) (by kernel_rfl) (by kernel_rfl) (fun _ _ _ h => h) (Or.inl ⟨by kernel_rfl, ?_⟩) hS ?_
  · intro w5 hSw
    have h0 := hSw.1.cell (i := 0) rfl
    clear hSw hS
    go_simp
  simp only [Act.put, List.setIfInBounds_toArray, List.set_cons_zero, List.set_cons_succ]
  refine wpAnyH_take (i := 2) (oi := { dst := some 7, op := Go.Op.fieldAddr 52 (Go.Operand.tmp 1) 1, type := 0, pos := "law.go:106", after := #[], guard := none }) (v := .pointer (some ⟨w.heap.size, 1, none⟩)) rfl (by kernel_rfl) (by kernel_rfl) (by kernel_rfl) (fun _ _ _ h => h) (Or.inl ⟨by kernel_rfl, ?_⟩) hS ?_
  · intro w5 hSw
    clear hSw hS
    go_simp
  simp only [Act.put, List.setIfInBounds_toArray, List.set_cons_zero, List.set_cons_succ]
  refine wpAnyH_take (i := 3) (oi := { dst := some 8, op := Go.Op.load 9 (Go.Operand.tmp 7), type := 9, pos := "law.go:106", after := #[{ on := 2, ground := Go.Ground.data }], guard := none }) (v := .string t) rfl (by kernel_rfl) (by kernel_rfl) (by kernel_rfl) (fun _ _ _ h => h) (Or.inl ⟨by kernel_rfl, ?_⟩) hS ?_
  · intro w5 hSw
    have h0 := hSw.1.cell (i := 1) rfl
    clear hSw hS
    go_simp
  simp only [Act.put, List.setIfInBounds_toArray, List.set_cons_zero, List.set_cons_succ]
  refine wpAnyH_take (i := 4) (oi := { dst := some 9, op := Go.Op.fieldAddr 52 (Go.Operand.tmp 1) 2, type := 0, pos := "law.go:106", after := #[], guard := none }) (v := .pointer (some ⟨w.heap.size, 2, none⟩)) rfl (by kernel_rfl) (by kernel_rfl) (by kernel_rfl) (fun _ _ _ h => h) (Or.inl ⟨by kernel_rfl, ?_⟩) hS ?_
  · intro w5 hSw
    clear hSw hS
    go_simp
  simp only [Act.put, List.setIfInBounds_toArray, List.set_cons_zero, List.set_cons_succ]
  refine wpAnyH_take (i := 5) (oi := { dst := some 10, op := Go.Op.load 3 (Go.Operand.tmp 9), type := 3, pos := "law.go:106", after := #[{ on := 4, ground := Go.Ground.data }], guard := none }) (v := .int .i64 mi) rfl (by kernel_rfl) (by kernel_rfl) (by kernel_rfl) (fun _ _ _ h => h) (Or.inl ⟨by kernel_rfl, ?_⟩) hS ?_
  · intro w5 hSw
    have h0 := hSw.1.cell (i := 2) rfl
    clear hSw hS
    go_simp
  simp only [Act.put, List.setIfInBounds_toArray, List.set_cons_zero, List.set_cons_succ]
  refine wpAnyH_take (i := 6) (oi := { dst := some 11, op := Go.Op.fieldAddr 52 (Go.Operand.tmp 1) 5, type := 0, pos := "law.go:106", after := #[], guard := none }) (v := .pointer (some ⟨w.heap.size, 5, none⟩)) rfl (by kernel_rfl) (by kernel_rfl) (by kernel_rfl) (fun _ _ _ h => h) (Or.inl ⟨by kernel_rfl, ?_⟩) hS ?_
  · intro w5 hSw
    clear hSw hS
    go_simp
  simp only [Act.put, List.setIfInBounds_toArray, List.set_cons_zero, List.set_cons_succ]
  refine wpAnyH_take (i := 7) (oi := { dst := some 12, op := Go.Op.load 22 (Go.Operand.tmp 11), type := 22, pos := "law.go:106", after := #[{ on := 6, ground := Go.Ground.data }], guard := none }) (v := .slice ab nb cb') rfl (by kernel_rfl) (by kernel_rfl) (by kernel_rfl) (fun _ _ _ h => h) (Or.inl ⟨by kernel_rfl, ?_⟩) hS ?_
  · intro w5 hSw
    have h0 := hSw.1.cell (i := 5) rfl
    clear hSw hS
    go_simp
  simp only [Act.put, List.setIfInBounds_toArray, List.set_cons_zero, List.set_cons_succ]
  refine wpAnyH_take (i := 8) (oi := { dst := some 13, op := Go.Op.fieldAddr 52 (Go.Operand.tmp 1) 6, type := 0, pos := "law.go:106", after := #[], guard := none }) (v := .pointer (some ⟨w.heap.size, 6, none⟩)) rfl (by kernel_rfl) (by kernel_rfl) (by kernel_rfl) (fun _ _ _ h => h) (Or.inl ⟨by kernel_rfl, ?_⟩) hS ?_
  · intro w5 hSw
    clear hSw hS
    go_simp
  simp only [Act.put, List.setIfInBounds_toArray, List.set_cons_zero, List.set_cons_succ]
  refine wpAnyH_take (i := 9) (oi := { dst := some 14, op := Go.Op.load 3 (Go.Operand.tmp 13), type := 3, pos := "law.go:106", after := #[{ on := 8, ground := Go.Ground.data }], guard := none }) (v := .int .i64 pad) rfl (by kernel_rfl) (by kernel_rfl) (by kernel_rfl) (fun _ _ _ h => h) (Or.inl ⟨by kernel_rfl, ?_⟩) hS ?_
  · intro w5 hSw
    have h0 := hSw.1.cell (i := 6) rfl
    clear hSw hS
    go_simp
  simp only [Act.put, List.setIfInBounds_toArray, List.set_cons_zero, List.set_cons_succ]
  refine wpAnyH_ready (rs := [10, 12]) (by kernel_rfl) (by simp) ?_
  refine AllReadyH.cons (o := { dst := some 15, op := Go.Op.call { callee := Go.Callee.value (Go.Operand.func 10), args := #[Go.Operand.tmp 12, Go.Operand.tmp 14], argTypes := #[22, 3] }, type := 22, pos := "law.go:106", after := #[{ on := 7, ground := Go.Ground.data }, { on := 9, ground := Go.Ground.data }], guard := none }) rfl (fun K hK => ?_) (AllReadyH.cons (o := { dst := some 3, op := Go.Op.alloc 27, type := 0, pos := "law.go:106", after := #[], guard := none }) rfl (fun K hK => ?_) AllReadyH.nil)
  · rw [if_pos (by kernel_rfl)]
    go_simp
    refine (padded_walk (.slice ab nb cb') bd pad (by omega) w1.drew (HB.out.up (HU0.out.drew))).mono ?_
    rintro e w2 ⟨v5, rfl, hO, h9⟩
    obtain ⟨a5, c5, rfl⟩ := row_len hO
    have HO2 := Hid.of (show Ow w2 w.heap.size _ (pdd bd pad) from ow_base hO (HU0.out.drew).size)
    have HU2 := Hid.of ((HU0.out.drew).trans h9)
    have HA2 := Hid.of ((HA0.out.up (Up.refl _).drew).up h9)
    have HZ2 := Hid.of ((HZ0.out.up (Up.refl _).drew).up h9)
    have Hs2 := Hid.of (show w1.drew.heap.size ≤ w2.heap.size from h9.size)
    clear h9 hO hS
    obtain ⟨L5, hL5⟩ : ∃ L5, (pdd bd pad).length = L5 := ⟨_, rfl⟩
    have HL5 := Hid.of hL5
    rw [hL5] at HO2 ⊢
    clear hL5
    dsimp only
    refine hK.out _ _ ⟨HA2.out, HZ2.out, HU2.out⟩ (fun hS => ?_)
    clear hK K
    refine wpAnyH_take (i := 11) (oi := { dst := some 16, op := Go.Op.build 27 #[(0, Go.Operand.tmp 6), (1, Go.Operand.tmp 8), (2, Go.Operand.tmp 10), (4, Go.Operand.tmp 15)], type := 27, pos := "law.go:106", after := #[{ on := 1, ground := Go.Ground.data }, { on := 3, ground := Go.Ground.data }, { on := 5, ground := Go.Ground.data }, { on := 10, ground := Go.Ground.data }], guard := none }) (v := .agg #[.string m, .string t, .int .i64 mi, .slice none 0 0, .slice a5 L5 c5, .bool false]) rfl (by kernel_rfl) (by kernel_rfl) (by kernel_rfl) (fun _ _ _ h => h) (Or.inl ⟨by kernel_rfl, ?_⟩) hS ?_
    · intro w5 hSw
      clear hSw hS
      go_simp
    simp only [Act.put, List.setIfInBounds_toArray, List.set_cons_zero, List.set_cons_succ]
    refine wpAnyH_ready (rs := [12]) (by kernel_rfl) (by simp) ?_
    refine AllReadyH.cons (o := { dst := some 3, op := Go.Op.alloc 27, type := 0, pos := "law.go:106", after := #[], guard := none }) rfl (fun K hK => ?_) AllReadyH.nil
    rw [if_pos (by kernel_rfl)]
    go_simp
    have HR3 := Hid.of (at_new w2 27 z6)
    have HBr := Hid.of (show w.heap.size + 1 < w2.heap.size from Nat.lt_of_lt_of_le HS1.out (Nat.le_trans (Up.refl w1).drew.size Hs2.out))
    have HO3 := Hid.of (ow_up HO2.out ((Up.refl w2).alloc (.cells z6.toArray 27)))
    clear HO2
    refine hK.out _ _ ⟨hS.1.up ((Up.refl _).alloc _), hS.2.1.up ((Up.refl _).alloc _), hS.2.2.alloc _⟩ (fun hS => ?_)
    clear hK K
    refine wpAnyH_ready (rs := [13]) (by kernel_rfl) (by simp) ?_
    refine AllReadyH.cons (o := { dst := none, op := Go.Op.store 27 (Go.Operand.tmp 3) (Go.Operand.tmp 16), type := 0, pos := "law.go:106", after := #[{ on := 12, ground := Go.Ground.data }, { on := 11, ground := Go.Ground.data }, { on := 10, ground := Go.Ground.chain }, { on := 0, ground := Go.Ground.phase }, { on := 1, ground := Go.Ground.phase }, { on := 2, ground := Go.Ground.phase }, { on := 3, ground := Go.Ground.phase }, { on := 4, ground := Go.Ground.phase }, { on := 5, ground := Go.Ground.phase }, { on := 6, ground := Go.Ground.phase }, { on := 7, ground := Go.Ground.phase }, { on := 8, ground := Go.Ground.phase }, { on := 9, ground := Go.Ground.phase }, { on := 10, ground := Go.Ground.phase }, { on := 11, ground := Go.Ground.phase }, { on := 12, ground := Go.Ground.phase }], guard := none }) rfl (fun K hK => oper_of_list ?_) AllReadyH.nil
    refine wpList_store_at rfl 27 _ _ rfl (w2.heap.size) HR3.out ([.string m, .string t, .int .i64 mi, .slice none 0 0, .slice a5 L5 c5, .bool false]) rfl rfl rfl (by kernel_rfl) (by kernel_rfl) ?_
    intro w4 hA4 hg4
    have HR4 := Hid.of hA4
    have HU4 := Hid.of (hS.2.2.by hg4 (fun g hg => by have := Option.some.inj hg; have := HBr.out; omega))
    have HA4 := Hid.of (hS.1.by hg4 (fun e => by have := Option.some.inj e; have := HBr.out; omega))
    have HZ4 := Hid.of (hS.2.1.by hg4 (fun e => by have := Option.some.inj e; have := HBr.out; omega))
    have HO4 := Hid.of (HO3.out.kept hg4 (.inr (own_ne HO3.out HR3.out (by decide))))
    clear hA4 hg4 HR3 HO3
    refine hK.out _ _ ⟨HA4.out, HZ4.out, HU4.out⟩ (fun hS => ?_)
    clear hK K hS
    refine wpAnyH_done (by kernel_rfl) ?_ _
    obtain ⟨Br, hBr⟩ : ∃ Br, w2.heap.size = Br := ⟨_, rfl⟩
    rw [hBr] at HR4 HBr ⊢
    clear hBr
    go_wp2
    go_loopw [4] (fun v4 wr => ∃ i : Nat, v4 = .int .i64 (i : Int) ∧ i ≤ ns.length ∧ Hid (∃ a7 c7, At wr Br 27 [.string m, .string t, .int .i64 mi, .slice a7 i c7, .slice a5 L5 c5, .bool false] ∧ FdO wr w.heap.size a7 (F.take i) c7 ∧ wr.ownsRow w.heap.size 5 1 (.slice a5 L5 c5) L5 (cb (pdd bd pad)) ∧ At wr w.heap.size 52 [.string m, .string t, .int .i64 mi, .slice an ns.length cn, .slice av us.length cv, .slice ab nb cb', .int .i64 pad] ∧ At wr (w.heap.size + 1) 27 z6 ∧ Up w wr)) (fun v4 _ => ns.length - (intOf v4).toNat)
    case atStart => exact ⟨0, rfl, Nat.zero_le _, Hid.of ⟨none, 0, HR4.out, World.ownsRow_nil _ _ _ _, (by have h := HO4.out; rw [HL5.out] at h; exact h), HA4.out, HZ4.out, HU4.out⟩⟩
    case round =>
      obtain ⟨i, rfl, hi, hQ⟩ := hrel
      obtain ⟨a7, c7, q1, q2, q3, q4, q5, q6⟩ := hQ.out
      have HR7 := Hid.of q1
      have HF7 := Hid.of q2
      have HO7 := Hid.of q3
      have HA7 := Hid.of q4
      have HZ7 := Hid.of q5
      have HU7 := Hid.of q6
      have h3 := q4.cell (i := 3) rfl
      clear hQ q1 q2 q3 q4 q5 q6
      by_cases hil : i < ns.length
      · have hilz : (i : Int) < (ns.length : Int) := by omega
        have hif : i < F.length := by rw [HFl.out]; exact hil
        obtain ⟨b, off, han, k1⟩ := HN.out.cells i hil
        have HAn := Hid.of han
        clear han
        have HT := Hid.of (List.take_succ_eq_append_getElem hif)
        have HLn := Hid.of (show (F.take i).length = i by rw [List.length_take]; omega)
        have hfg := HFg.out i hil hif
        obtain ⟨f, hf⟩ : ∃ f, F[i] = f := ⟨_, rfl⟩
        rw [hf] at HT hfg
        have HFv := Hid.of (show vat us i = f.v by rw [hfg])
        have HK1 := Hid.of (show w.cell? ⟨b, off + i, none⟩ = some (.string f.n) by rw [k1, hfg])
        clear hf hfg k1
        have HRd := Hid.of (HR7.out.up (Up.refl wr).drew)
        have HFd := Hid.of (ow_up HF7.out (Up.refl wr).drew)
        have HFd' := Hid.of (show wr.drew.ownsRow w.heap.size 73 2 (.slice a7 i c7) i (fdc (F.take i)) by have := HFd.out; rw [HLn.out] at this; exact this)
        have HOd := Hid.of (ow_up HO7.out (Up.refl wr).drew)
        have HAd := Hid.of (HA7.out.up (Up.refl wr).drew)
        have HZd := Hid.of (HZ7.out.up (Up.refl wr).drew)
        go_wp2
        refine wp_region_held_drew (S := fun w2 => At w2 w.heap.size 52 [.string m, .string t, .int .i64 mi, .slice an ns.length cn, .slice av us.length cv, .slice ab nb cb', .int .i64 pad] ∧ At w2 (w.heap.size + 1) 27 z6 ∧ Up w w2) (by kernel_rfl) ⟨HA7.out.up (Up.refl _).drew, HZ7.out.up (Up.refl _).drew, HU7.out.drew⟩ (fun hS => ?_)
        refine wpAnyH_take (i := 0) (oi := { dst := some 24, op := Go.Op.fieldAddr 27 (Go.Operand.tmp 3) 3, type := 0, pos := "law.go:108", after := #[], guard := none }) (v := .pointer (some ⟨Br, 3, none⟩)) rfl (by kernel_rfl) (by kernel_rfl) (by kernel_rfl) (fun _ _ _ h => h) (Or.inl ⟨by kernel_rfl, ?_⟩) hS ?_
        · intro w5 hSw
          clear hSw hS
          go_simp
        simp only [Act.put, List.setIfInBounds_toArray, List.set_cons_zero, List.set_cons_succ]
        refine wpAnyH_take (i := 2) (oi := { dst := some 26, op := Go.Op.fieldAddr 52 (Go.Operand.tmp 1) 3, type := 0, pos := "law.go:108", after := #[], guard := none }) (v := .pointer (some ⟨w.heap.size, 3, none⟩)) rfl (by kernel_rfl) (by kernel_rfl) (by kernel_rfl) (fun _ _ _ h => h) (Or.inl ⟨by kernel_rfl, ?_⟩) hS ?_
        · intro w5 hSw
          clear hSw hS
          go_simp
        simp only [Act.put, List.setIfInBounds_toArray, List.set_cons_zero, List.set_cons_succ]
        refine wpAnyH_take (i := 3) (oi := { dst := some 27, op := Go.Op.load 50 (Go.Operand.tmp 26), type := 50, pos := "law.go:108", after := #[{ on := 2, ground := Go.Ground.data }], guard := none }) (v := .slice (some ⟨b, off, none⟩) ns.length cn) rfl (by kernel_rfl) (by kernel_rfl) (by kernel_rfl) (fun _ _ _ h => h) (Or.inl ⟨by kernel_rfl, ?_⟩) hS ?_
        · intro w5 hSw
          have h0 := hSw.1.cell (i := 3) rfl
          rw [HAn.out] at h0
          clear hSw hS
          go_simp
        simp only [Act.put, List.setIfInBounds_toArray, List.set_cons_zero, List.set_cons_succ]
        refine wpAnyH_take (i := 4) (oi := { dst := some 28, op := Go.Op.move (Go.Operand.tmp 4), type := 3, pos := "law.go:108", after := #[], guard := none }) (v := .int .i64 (i : Int)) rfl (by kernel_rfl) (by kernel_rfl) (by kernel_rfl) (fun _ _ _ h => h) (Or.inl ⟨by kernel_rfl, ?_⟩) hS ?_
        · intro w5 hSw
          clear hSw hS
          go_simp
        simp only [Act.put, List.setIfInBounds_toArray, List.set_cons_zero, List.set_cons_succ]
        refine wpAnyH_take (i := 5) (oi := { dst := some 29, op := Go.Op.indexAddr 50 (Go.Operand.tmp 27) (Go.Operand.tmp 28), type := 0, pos := "law.go:108", after := #[{ on := 3, ground := Go.Ground.data }, { on := 4, ground := Go.Ground.data }], guard := none }) (v := .pointer (some ⟨b, off + i, none⟩)) rfl (by kernel_rfl) (by kernel_rfl) (by kernel_rfl) (fun _ _ _ h => h) (Or.inl ⟨by kernel_rfl, ?_⟩) hS ?_
        · intro w5 hSw
          clear hSw hS
          go_simp
        simp only [Act.put, List.setIfInBounds_toArray, List.set_cons_zero, List.set_cons_succ]
        refine wpAnyH_take (i := 6) (oi := { dst := some 30, op := Go.Op.load 9 (Go.Operand.tmp 29), type := 9, pos := "law.go:108", after := #[{ on := 5, ground := Go.Ground.data }], guard := none }) (v := .string f.n) rfl (by kernel_rfl) (by kernel_rfl) (by kernel_rfl) (fun _ _ _ h => h) (Or.inl ⟨by kernel_rfl, ?_⟩) hS ?_
        · intro w5 hSw
          have h0 := hSw.2.2.cell HK1.out
          clear hSw hS
          go_simp
        simp only [Act.put, List.setIfInBounds_toArray, List.set_cons_zero, List.set_cons_succ]
        refine wpAnyH_take (i := 7) (oi := { dst := some 31, op := Go.Op.fieldAddr 52 (Go.Operand.tmp 1) 4, type := 0, pos := "law.go:108", after := #[], guard := none }) (v := .pointer (some ⟨w.heap.size, 4, none⟩)) rfl (by kernel_rfl) (by kernel_rfl) (by kernel_rfl) (fun _ _ _ h => h) (Or.inl ⟨by kernel_rfl, ?_⟩) hS ?_
        · intro w5 hSw
          clear hSw hS
          go_simp
        simp only [Act.put, List.setIfInBounds_toArray, List.set_cons_zero, List.set_cons_succ]
        refine wpAnyH_take (i := 8) (oi := { dst := some 32, op := Go.Op.load 50 (Go.Operand.tmp 31), type := 50, pos := "law.go:108", after := #[{ on := 7, ground := Go.Ground.data }], guard := none }) (v := .slice av us.length cv) rfl (by kernel_rfl) (by kernel_rfl) (by kernel_rfl) (fun _ _ _ h => h) (Or.inl ⟨by kernel_rfl, ?_⟩) hS ?_
        · intro w5 hSw
          have h0 := hSw.1.cell (i := 4) rfl
          clear hSw hS
          go_simp
        simp only [Act.put, List.setIfInBounds_toArray, List.set_cons_zero, List.set_cons_succ]
        refine wpAnyH_take (i := 9) (oi := { dst := some 33, op := Go.Op.move (Go.Operand.tmp 4), type := 3, pos := "law.go:108", after := #[], guard := none }) (v := .int .i64 (i : Int)) rfl (by kernel_rfl) (by kernel_rfl) (by kernel_rfl) (fun _ _ _ h => h) (Or.inl ⟨by kernel_rfl, ?_⟩) hS ?_
        · intro w5 hSw
          clear hSw hS
          go_simp
        simp only [Act.put, List.setIfInBounds_toArray, List.set_cons_zero, List.set_cons_succ]
        refine wpAnyH_ready (rs := [1, 10]) (by kernel_rfl) (by simp) ?_
        refine AllReadyH.cons (o := { dst := some 25, op := Go.Op.load 25 (Go.Operand.tmp 24), type := 25, pos := "law.go:108", after := #[{ on := 0, ground := Go.Ground.data }], guard := none }) rfl (fun K hK => ?_) (AllReadyH.cons (o := { dst := some 34, op := Go.Op.call { callee := Go.Callee.value (Go.Operand.func 38), args := #[Go.Operand.tmp 32, Go.Operand.tmp 33], argTypes := #[50, 3] }, type := 9, pos := "law.go:108", after := #[{ on := 8, ground := Go.Ground.data }, { on := 9, ground := Go.Ground.data }], guard := none }) rfl (fun K hK => ?_) AllReadyH.nil)
        · rw [if_pos (by kernel_rfl)]
          have k3 := HRd.out.cell (i := 3) rfl
          go_simp
          refine hK.out _ _ hS (fun hS => ?_)
          clear hK K k3
          refine wpAnyH_ready (rs := [10]) (by kernel_rfl) (by simp) ?_
          refine AllReadyH.cons (o := { dst := some 34, op := Go.Op.call { callee := Go.Callee.value (Go.Operand.func 38), args := #[Go.Operand.tmp 32, Go.Operand.tmp 33], argTypes := #[50, 3] }, type := 9, pos := "law.go:108", after := #[{ on := 8, ground := Go.Ground.data }, { on := 9, ground := Go.Ground.data }], guard := none }) rfl (fun K hK => ?_) AllReadyH.nil
          rw [if_pos (by kernel_rfl)]
          go_simp
          refine (value_walk av us cv i wr.drew (HV.out.up HU7.out.drew)).mono ?_
          rintro e w5 ⟨rfl, h9⟩
          obtain rfl := h9.symm
          clear h9
          rw [HFv.out]
          dsimp only
          refine hK.out _ _ hS (fun hS => ?_)
          clear hK K
          refine wpAnyH_take (i := 11) (oi := { dst := some 35, op := Go.Op.build 73 #[(0, Go.Operand.tmp 30), (1, Go.Operand.tmp 34)], type := 73, pos := "law.go:108", after := #[{ on := 6, ground := Go.Ground.data }, { on := 10, ground := Go.Ground.data }], guard := none }) (v := .agg #[.string f.n, .string f.v]) rfl (by kernel_rfl) (by kernel_rfl) (by kernel_rfl) (fun _ _ _ h => h) (Or.inl ⟨by kernel_rfl, ?_⟩) hS ?_
          · intro w5 hSw
            clear hSw hS
            go_simp
          simp only [Act.put, List.setIfInBounds_toArray, List.set_cons_zero, List.set_cons_succ]
          refine wpAnyH_ready (rs := [12]) (by kernel_rfl) (by simp) ?_
          refine AllReadyH.cons (o := { dst := some 36, op := Go.Op.buildSlice 25 1 #[(0, Go.Operand.tmp 35)], type := 25, pos := "law.go:108", after := #[{ on := 11, ground := Go.Ground.data }], guard := none }) rfl (fun K hK => ?_) AllReadyH.nil
          rw [if_pos (by kernel_rfl)]
          go_simp
          refine hK.out _ _ ⟨hS.1.up ((Up.refl _).alloc _), hS.2.1.up ((Up.refl _).alloc _), hS.2.2.alloc _⟩ (fun hS => ?_)
          clear hK K
          refine wpAnyH_ready (rs := [13]) (by kernel_rfl) (by simp) ?_
          refine AllReadyH.cons (o := { dst := some 37, op := Go.Op.call { callee := Go.Callee.builtin Go.Builtin.append, args := #[Go.Operand.tmp 25, Go.Operand.tmp 36], argTypes := #[25, 25] }, type := 25, pos := "law.go:108", after := #[{ on := 1, ground := Go.Ground.data }, { on := 12, ground := Go.Ground.data }, { on := 10, ground := Go.Ground.chain }], guard := none }) rfl (fun K hK => oper_of_list ?_) AllReadyH.nil
          refine wpList_appFd (w := wr.drew) (N := w.heap.size) rfl _ _ rfl a7 c7 (F.take i) f HLn.out rfl rfl HFd.out HU7.out.drew.size (by omega) ?_
          intro ax2 cx2 w7 o7 u7 g7
          have HU8 := Hid.of (u7 w HU7.out.drew (Nat.le_refl _))
          have HR8 := Hid.of (HRd.out.by g7 (own_ne HFd'.out HRd.out (by decide)))
          have HA8 := Hid.of (HAd.out.by g7 (own_ne HFd'.out HAd.out (by decide)))
          have HZ8 := Hid.of (HZd.out.by g7 (own_ne HFd'.out HZd.out (by decide)))
          have HB8 := Hid.of (HOd.out.kept g7 (own_off HOd.out HFd'.out (by decide)))
          have HF8 := Hid.of (show FdO w7 w.heap.size ax2 (F.take (i + 1)) cx2 by rw [HT.out]; exact o7)
          clear o7 u7 g7
          refine hK.out _ _ ⟨HA8.out, HZ8.out, HU8.out⟩ (fun hS => ?_)
          clear hK K
          simp only [Act.put, List.setIfInBounds_toArray, List.set_cons_zero, List.set_cons_succ]
          refine wpAnyH_take (i := 14) (oi := { dst := some 38, op := Go.Op.fieldAddr 27 (Go.Operand.tmp 3) 3, type := 0, pos := "law.go:108", after := #[{ on := 0, ground := Go.Ground.phase }, { on := 1, ground := Go.Ground.phase }, { on := 2, ground := Go.Ground.phase }, { on := 3, ground := Go.Ground.phase }, { on := 4, ground := Go.Ground.phase }, { on := 5, ground := Go.Ground.phase }, { on := 6, ground := Go.Ground.phase }, { on := 7, ground := Go.Ground.phase }, { on := 8, ground := Go.Ground.phase }, { on := 9, ground := Go.Ground.phase }, { on := 10, ground := Go.Ground.phase }, { on := 11, ground := Go.Ground.phase }, { on := 12, ground := Go.Ground.phase }, { on := 13, ground := Go.Ground.phase }], guard := none }) (v := .pointer (some ⟨Br, 3, none⟩)) rfl (by kernel_rfl) (by kernel_rfl) (by kernel_rfl) (fun _ _ _ h => h) (Or.inl ⟨by kernel_rfl, ?_⟩) hS ?_
          · intro w5 hSw
            clear hSw hS
            go_simp
          simp only [Act.put, List.setIfInBounds_toArray, List.set_cons_zero, List.set_cons_succ]
          refine wpAnyH_ready (rs := [15]) (by kernel_rfl) (by simp) ?_
          refine AllReadyH.cons (o := { dst := none, op := Go.Op.store 25 (Go.Operand.tmp 38) (Go.Operand.tmp 37), type := 0, pos := "law.go:108", after := #[{ on := 14, ground := Go.Ground.data }, { on := 13, ground := Go.Ground.data }, { on := 13, ground := Go.Ground.chain }, { on := 0, ground := Go.Ground.phase }, { on := 1, ground := Go.Ground.phase }, { on := 2, ground := Go.Ground.phase }, { on := 3, ground := Go.Ground.phase }, { on := 4, ground := Go.Ground.phase }, { on := 5, ground := Go.Ground.phase }, { on := 6, ground := Go.Ground.phase }, { on := 7, ground := Go.Ground.phase }, { on := 8, ground := Go.Ground.phase }, { on := 9, ground := Go.Ground.phase }, { on := 10, ground := Go.Ground.phase }, { on := 11, ground := Go.Ground.phase }, { on := 12, ground := Go.Ground.phase }, { on := 13, ground := Go.Ground.phase }], guard := none }) rfl (fun K hK => ?_) AllReadyH.nil
          have k3 := HR8.out.cell (i := 3) rfl
          have f3 := HR8.out.thaw 3
          have G8 := grown_set1 w7 Br 3 (.slice ax2 (i + 1) cx2)
          have HR9 := Hid.of (HR8.out.set 3 (.slice ax2 (i + 1) cx2))
          have HU9 := Hid.of (HU8.out.by G8 (fun g hg => by have := Option.some.inj hg; have := HBr.out; omega))
          have HA9 := Hid.of (HA8.out.by G8 (fun e => by have := Option.some.inj e; have := HBr.out; omega))
          have HZ9 := Hid.of (HZ8.out.by G8 (fun e => by have := Option.some.inj e; have := HBr.out; omega))
          have HB9 := Hid.of (HB8.out.kept G8 (.inr (own_ne HB8.out HR8.out (by decide))))
          have HF9 := Hid.of (show FdO (w7.setCell ⟨Br, 3, none⟩ (.slice ax2 (i + 1) cx2)) w.heap.size ax2 (F.take (i + 1)) cx2 from HF8.out.kept G8 (.inr (own_ne HF8.out HR8.out (by decide))))
          clear G8
          rw [if_pos (by kernel_rfl)]
          go_simp
          refine hK.out _ _ ⟨HA9.out, HZ9.out, HU9.out⟩ (fun hS => ?_)
          clear hK K hS
          refine wpAnyH_done (by kernel_rfl) ?_ _
          go_wp2
          go_roundw
          all_goals first
            | exact ⟨i + 1, by go_num, by omega, Hid.of ⟨ax2, cx2, HR9.out, HF9.out, HB9.out, HA9.out, HZ9.out, HU9.out⟩⟩
            | (simp [intOf]; omega)
        · rw [if_pos (by kernel_rfl)]
          go_simp
          refine (value_walk av us cv i wr.drew (HV.out.up HU7.out.drew)).mono ?_
          rintro e w5 ⟨rfl, h9⟩
          obtain rfl := h9.symm
          clear h9
          rw [HFv.out]
          dsimp only
          refine hK.out _ _ hS (fun hS => ?_)
          clear hK K
          refine wpAnyH_take (i := 11) (oi := { dst := some 35, op := Go.Op.build 73 #[(0, Go.Operand.tmp 30), (1, Go.Operand.tmp 34)], type := 73, pos := "law.go:108", after := #[{ on := 6, ground := Go.Ground.data }, { on := 10, ground := Go.Ground.data }], guard := none }) (v := .agg #[.string f.n, .string f.v]) rfl (by kernel_rfl) (by kernel_rfl) (by kernel_rfl) (fun _ _ _ h => h) (Or.inl ⟨by kernel_rfl, ?_⟩) hS ?_
          · intro w5 hSw
            clear hSw hS
            go_simp
          simp only [Act.put, List.setIfInBounds_toArray, List.set_cons_zero, List.set_cons_succ]
          refine wpAnyH_ready (rs := [1, 12]) (by kernel_rfl) (by simp) ?_
          refine AllReadyH.cons (o := { dst := some 25, op := Go.Op.load 25 (Go.Operand.tmp 24), type := 25, pos := "law.go:108", after := #[{ on := 0, ground := Go.Ground.data }], guard := none }) rfl (fun K hK => ?_) (AllReadyH.cons (o := { dst := some 36, op := Go.Op.buildSlice 25 1 #[(0, Go.Operand.tmp 35)], type := 25, pos := "law.go:108", after := #[{ on := 11, ground := Go.Ground.data }], guard := none }) rfl (fun K hK => ?_) AllReadyH.nil)
          · rw [if_pos (by kernel_rfl)]
            have k3 := HRd.out.cell (i := 3) rfl
            go_simp
            refine hK.out _ _ hS (fun hS => ?_)
            clear hK K k3
            refine wpAnyH_ready (rs := [12]) (by kernel_rfl) (by simp) ?_
            refine AllReadyH.cons (o := { dst := some 36, op := Go.Op.buildSlice 25 1 #[(0, Go.Operand.tmp 35)], type := 25, pos := "law.go:108", after := #[{ on := 11, ground := Go.Ground.data }], guard := none }) rfl (fun K hK => ?_) AllReadyH.nil
            rw [if_pos (by kernel_rfl)]
            go_simp
            refine hK.out _ _ ⟨hS.1.up ((Up.refl _).alloc _), hS.2.1.up ((Up.refl _).alloc _), hS.2.2.alloc _⟩ (fun hS => ?_)
            clear hK K
            refine wpAnyH_ready (rs := [13]) (by kernel_rfl) (by simp) ?_
            refine AllReadyH.cons (o := { dst := some 37, op := Go.Op.call { callee := Go.Callee.builtin Go.Builtin.append, args := #[Go.Operand.tmp 25, Go.Operand.tmp 36], argTypes := #[25, 25] }, type := 25, pos := "law.go:108", after := #[{ on := 1, ground := Go.Ground.data }, { on := 12, ground := Go.Ground.data }, { on := 10, ground := Go.Ground.chain }], guard := none }) rfl (fun K hK => oper_of_list ?_) AllReadyH.nil
            refine wpList_appFd (w := wr.drew) (N := w.heap.size) rfl _ _ rfl a7 c7 (F.take i) f HLn.out rfl rfl HFd.out HU7.out.drew.size (by omega) ?_
            intro ax2 cx2 w7 o7 u7 g7
            have HU8 := Hid.of (u7 w HU7.out.drew (Nat.le_refl _))
            have HR8 := Hid.of (HRd.out.by g7 (own_ne HFd'.out HRd.out (by decide)))
            have HA8 := Hid.of (HAd.out.by g7 (own_ne HFd'.out HAd.out (by decide)))
            have HZ8 := Hid.of (HZd.out.by g7 (own_ne HFd'.out HZd.out (by decide)))
            have HB8 := Hid.of (HOd.out.kept g7 (own_off HOd.out HFd'.out (by decide)))
            have HF8 := Hid.of (show FdO w7 w.heap.size ax2 (F.take (i + 1)) cx2 by rw [HT.out]; exact o7)
            clear o7 u7 g7
            refine hK.out _ _ ⟨HA8.out, HZ8.out, HU8.out⟩ (fun hS => ?_)
            clear hK K
            simp only [Act.put, List.setIfInBounds_toArray, List.set_cons_zero, List.set_cons_succ]
            refine wpAnyH_take (i := 14) (oi := { dst := some 38, op := Go.Op.fieldAddr 27 (Go.Operand.tmp 3) 3, type := 0, pos := "law.go:108", after := #[{ on := 0, ground := Go.Ground.phase }, { on := 1, ground := Go.Ground.phase }, { on := 2, ground := Go.Ground.phase }, { on := 3, ground := Go.Ground.phase }, { on := 4, ground := Go.Ground.phase }, { on := 5, ground := Go.Ground.phase }, { on := 6, ground := Go.Ground.phase }, { on := 7, ground := Go.Ground.phase }, { on := 8, ground := Go.Ground.phase }, { on := 9, ground := Go.Ground.phase }, { on := 10, ground := Go.Ground.phase }, { on := 11, ground := Go.Ground.phase }, { on := 12, ground := Go.Ground.phase }, { on := 13, ground := Go.Ground.phase }], guard := none }) (v := .pointer (some ⟨Br, 3, none⟩)) rfl (by kernel_rfl) (by kernel_rfl) (by kernel_rfl) (fun _ _ _ h => h) (Or.inl ⟨by kernel_rfl, ?_⟩) hS ?_
            · intro w5 hSw
              clear hSw hS
              go_simp
            simp only [Act.put, List.setIfInBounds_toArray, List.set_cons_zero, List.set_cons_succ]
            refine wpAnyH_ready (rs := [15]) (by kernel_rfl) (by simp) ?_
            refine AllReadyH.cons (o := { dst := none, op := Go.Op.store 25 (Go.Operand.tmp 38) (Go.Operand.tmp 37), type := 0, pos := "law.go:108", after := #[{ on := 14, ground := Go.Ground.data }, { on := 13, ground := Go.Ground.data }, { on := 13, ground := Go.Ground.chain }, { on := 0, ground := Go.Ground.phase }, { on := 1, ground := Go.Ground.phase }, { on := 2, ground := Go.Ground.phase }, { on := 3, ground := Go.Ground.phase }, { on := 4, ground := Go.Ground.phase }, { on := 5, ground := Go.Ground.phase }, { on := 6, ground := Go.Ground.phase }, { on := 7, ground := Go.Ground.phase }, { on := 8, ground := Go.Ground.phase }, { on := 9, ground := Go.Ground.phase }, { on := 10, ground := Go.Ground.phase }, { on := 11, ground := Go.Ground.phase }, { on := 12, ground := Go.Ground.phase }, { on := 13, ground := Go.Ground.phase }], guard := none }) rfl (fun K hK => ?_) AllReadyH.nil
            have k3 := HR8.out.cell (i := 3) rfl
            have f3 := HR8.out.thaw 3
            have G8 := grown_set1 w7 Br 3 (.slice ax2 (i + 1) cx2)
            have HR9 := Hid.of (HR8.out.set 3 (.slice ax2 (i + 1) cx2))
            have HU9 := Hid.of (HU8.out.by G8 (fun g hg => by have := Option.some.inj hg; have := HBr.out; omega))
            have HA9 := Hid.of (HA8.out.by G8 (fun e => by have := Option.some.inj e; have := HBr.out; omega))
            have HZ9 := Hid.of (HZ8.out.by G8 (fun e => by have := Option.some.inj e; have := HBr.out; omega))
            have HB9 := Hid.of (HB8.out.kept G8 (.inr (own_ne HB8.out HR8.out (by decide))))
            have HF9 := Hid.of (show FdO (w7.setCell ⟨Br, 3, none⟩ (.slice ax2 (i + 1) cx2)) w.heap.size ax2 (F.take (i + 1)) cx2 from HF8.out.kept G8 (.inr (own_ne HF8.out HR8.out (by decide))))
            clear G8
            rw [if_pos (by kernel_rfl)]
            go_simp
            refine hK.out _ _ ⟨HA9.out, HZ9.out, HU9.out⟩ (fun hS => ?_)
            clear hK K hS
            refine wpAnyH_done (by kernel_rfl) ?_ _
            go_wp2
            go_roundw
            all_goals first
              | exact ⟨i + 1, by go_num, by omega, Hid.of ⟨ax2, cx2, HR9.out, HF9.out, HB9.out, HA9.out, HZ9.out, HU9.out⟩⟩
              | (simp [intOf]; omega)
          · rw [if_pos (by kernel_rfl)]
            go_simp
            refine hK.out _ _ ⟨hS.1.up ((Up.refl _).alloc _), hS.2.1.up ((Up.refl _).alloc _), hS.2.2.alloc _⟩ (fun hS => ?_)
            clear hK K
            refine wpAnyH_ready (rs := [1]) (by kernel_rfl) (by simp) ?_
            refine AllReadyH.cons (o := { dst := some 25, op := Go.Op.load 25 (Go.Operand.tmp 24), type := 25, pos := "law.go:108", after := #[{ on := 0, ground := Go.Ground.data }], guard := none }) rfl (fun K hK => ?_) AllReadyH.nil
            rw [if_pos (by kernel_rfl)]
            have k3 := ((HR7.out.up ((Up.refl wr).alloc (.cells #[.string f.n, .string f.v] 73))).up (Up.refl _).drew).cell (i := 3) rfl
            go_simp
            refine hK.out _ _ hS (fun hS => ?_)
            clear hK K k3
            refine wpAnyH_ready (rs := [13]) (by kernel_rfl) (by simp) ?_
            refine AllReadyH.cons (o := { dst := some 37, op := Go.Op.call { callee := Go.Callee.builtin Go.Builtin.append, args := #[Go.Operand.tmp 25, Go.Operand.tmp 36], argTypes := #[25, 25] }, type := 25, pos := "law.go:108", after := #[{ on := 1, ground := Go.Ground.data }, { on := 12, ground := Go.Ground.data }, { on := 10, ground := Go.Ground.chain }], guard := none }) rfl (fun K hK => oper_of_list ?_) AllReadyH.nil
            refine wpList_appFd (w := wr.drew) (N := w.heap.size) rfl _ _ rfl a7 c7 (F.take i) f HLn.out rfl rfl HFd.out HU7.out.drew.size (by omega) ?_
            intro ax2 cx2 w7 o7 u7 g7
            have HU8 := Hid.of (u7 w HU7.out.drew (Nat.le_refl _))
            have HR8 := Hid.of (HRd.out.by g7 (own_ne HFd'.out HRd.out (by decide)))
            have HA8 := Hid.of (HAd.out.by g7 (own_ne HFd'.out HAd.out (by decide)))
            have HZ8 := Hid.of (HZd.out.by g7 (own_ne HFd'.out HZd.out (by decide)))
            have HB8 := Hid.of (HOd.out.kept g7 (own_off HOd.out HFd'.out (by decide)))
            have HF8 := Hid.of (show FdO w7 w.heap.size ax2 (F.take (i + 1)) cx2 by rw [HT.out]; exact o7)
            clear o7 u7 g7
            refine hK.out _ _ ⟨HA8.out, HZ8.out, HU8.out⟩ (fun hS => ?_)
            clear hK K
            simp only [Act.put, List.setIfInBounds_toArray, List.set_cons_zero, List.set_cons_succ]
            refine wpAnyH_take (i := 14) (oi := { dst := some 38, op := Go.Op.fieldAddr 27 (Go.Operand.tmp 3) 3, type := 0, pos := "law.go:108", after := #[{ on := 0, ground := Go.Ground.phase }, { on := 1, ground := Go.Ground.phase }, { on := 2, ground := Go.Ground.phase }, { on := 3, ground := Go.Ground.phase }, { on := 4, ground := Go.Ground.phase }, { on := 5, ground := Go.Ground.phase }, { on := 6, ground := Go.Ground.phase }, { on := 7, ground := Go.Ground.phase }, { on := 8, ground := Go.Ground.phase }, { on := 9, ground := Go.Ground.phase }, { on := 10, ground := Go.Ground.phase }, { on := 11, ground := Go.Ground.phase }, { on := 12, ground := Go.Ground.phase }, { on := 13, ground := Go.Ground.phase }], guard := none }) (v := .pointer (some ⟨Br, 3, none⟩)) rfl (by kernel_rfl) (by kernel_rfl) (by kernel_rfl) (fun _ _ _ h => h) (Or.inl ⟨by kernel_rfl, ?_⟩) hS ?_
            · intro w5 hSw
              clear hSw hS
              go_simp
            simp only [Act.put, List.setIfInBounds_toArray, List.set_cons_zero, List.set_cons_succ]
            refine wpAnyH_ready (rs := [15]) (by kernel_rfl) (by simp) ?_
            refine AllReadyH.cons (o := { dst := none, op := Go.Op.store 25 (Go.Operand.tmp 38) (Go.Operand.tmp 37), type := 0, pos := "law.go:108", after := #[{ on := 14, ground := Go.Ground.data }, { on := 13, ground := Go.Ground.data }, { on := 13, ground := Go.Ground.chain }, { on := 0, ground := Go.Ground.phase }, { on := 1, ground := Go.Ground.phase }, { on := 2, ground := Go.Ground.phase }, { on := 3, ground := Go.Ground.phase }, { on := 4, ground := Go.Ground.phase }, { on := 5, ground := Go.Ground.phase }, { on := 6, ground := Go.Ground.phase }, { on := 7, ground := Go.Ground.phase }, { on := 8, ground := Go.Ground.phase }, { on := 9, ground := Go.Ground.phase }, { on := 10, ground := Go.Ground.phase }, { on := 11, ground := Go.Ground.phase }, { on := 12, ground := Go.Ground.phase }, { on := 13, ground := Go.Ground.phase }], guard := none }) rfl (fun K hK => ?_) AllReadyH.nil
            have k3 := HR8.out.cell (i := 3) rfl
            have f3 := HR8.out.thaw 3
            have G8 := grown_set1 w7 Br 3 (.slice ax2 (i + 1) cx2)
            have HR9 := Hid.of (HR8.out.set 3 (.slice ax2 (i + 1) cx2))
            have HU9 := Hid.of (HU8.out.by G8 (fun g hg => by have := Option.some.inj hg; have := HBr.out; omega))
            have HA9 := Hid.of (HA8.out.by G8 (fun e => by have := Option.some.inj e; have := HBr.out; omega))
            have HZ9 := Hid.of (HZ8.out.by G8 (fun e => by have := Option.some.inj e; have := HBr.out; omega))
            have HB9 := Hid.of (HB8.out.kept G8 (.inr (own_ne HB8.out HR8.out (by decide))))
            have HF9 := Hid.of (show FdO (w7.setCell ⟨Br, 3, none⟩ (.slice ax2 (i + 1) cx2)) w.heap.size ax2 (F.take (i + 1)) cx2 from HF8.out.kept G8 (.inr (own_ne HF8.out HR8.out (by decide))))
            clear G8
            rw [if_pos (by kernel_rfl)]
            go_simp
            refine hK.out _ _ ⟨HA9.out, HZ9.out, HU9.out⟩ (fun hS => ?_)
            clear hK K hS
            refine wpAnyH_done (by kernel_rfl) ?_ _
            go_wp2
            go_roundw
            all_goals first
              | exact ⟨i + 1, by go_num, by omega, Hid.of ⟨ax2, cx2, HR9.out, HF9.out, HB9.out, HA9.out, HZ9.out, HU9.out⟩⟩
              | (simp [intOf]; omega)
      · have hilz : ¬ (i : Int) < (ns.length : Int) := by omega
        have hin : i = ns.length := by omega
        subst hin
        have HF8 := Hid.of (show FdO wr w.heap.size a7 F c7 by
          have h1 := HF7.out
          rw [List.take_of_length_le (by rw [HFl.out]; exact Nat.le_refl _)] at h1
          exact h1)
        go_wp2_with (with_reducible show wpList _ _ _ ({ dst := _, op := Op.load 27 _, type := _, pos := _, after := _, guard := _ } :: _) _ _; refine Shut.out ?_)
        show wpList _ _ _ _ _ _
        refine wpList_load_mid rfl _ _ rfl Br 0 rfl [.string m, .string t, .int .i64 mi, .slice a7 ns.length c7, .slice a5 L5 c5, .bool false] _ HR7.out.range Tryz.underlying27 rfl (by kernel_rfl) ?_
        simp only [Act.put, List.setIfInBounds_toArray, List.set_cons_zero, List.set_cons_succ]
        refine wpList_store_at rfl 27 _ _ rfl (w.heap.size + 1) HZ7.out [.string m, .string t, .int .i64 mi, .slice a7 ns.length c7, .slice a5 L5 c5, .bool false] rfl rfl rfl (by kernel_rfl) (by kernel_rfl) ?_
        intro w8 hA8 hg8
        have HA8 := Hid.of hA8
        have HU8 := Hid.of (HU7.out.by hg8 (fun g hg => by have := Option.some.inj hg; omega))
        have HF9 := Hid.of (show FdO w8 w.heap.size a7 F c7 from HF8.out.kept hg8 (.inr (own_ne HF8.out HZ7.out (by decide))))
        have HO9 := Hid.of (HO7.out.kept hg8 (.inr (own_ne HO7.out HZ7.out (by decide))))
        clear hA8 hg8
        simp only [Act.put]
        repeat go_step
        refine bodyPost_ret (results_agg1 Tryz.results20 _ _ (w.heap.size + 1) [.string m, .string t, .int .i64 mi, .slice a7 ns.length c7, .slice a5 L5 c5, .bool false] rfl HA8.out.range Tryz.underlying27 rfl (by kernel_rfl)) rfl ?_
        exact ⟨⟨a7, c7, _, rfl, Hid.of ⟨HF9.out, by unfold Ow; rw [HL5.out]; exact HO9.out⟩⟩, HU8.out⟩
  · rw [if_pos (by kernel_rfl)]
    go_simp
    have HR1 := Hid.of (show At _ w1.heap.size 27 z6 from at_new w1.drew 27 z6)
    have HUa := Hid.of ((Up.refl w1.drew).alloc (.cells z6.toArray 27))
    have HBr := Hid.of (show w.heap.size + 1 < w1.heap.size from HS1.out)
    refine hK.out _ _ ⟨hS.1.up HUa.out, hS.2.1.up HUa.out, hS.2.2.trans HUa.out⟩ (fun hS => ?_)
    clear hK K
    refine wpAnyH_ready (rs := [10]) (by kernel_rfl) (by simp) ?_
    refine AllReadyH.cons (o := { dst := some 15, op := Go.Op.call { callee := Go.Callee.value (Go.Operand.func 10), args := #[Go.Operand.tmp 12, Go.Operand.tmp 14], argTypes := #[22, 3] }, type := 22, pos := "law.go:106", after := #[{ on := 7, ground := Go.Ground.data }, { on := 9, ground := Go.Ground.data }], guard := none }) rfl (fun K hK => ?_) AllReadyH.nil
    rw [if_pos (by kernel_rfl)]
    go_simp
    refine (padded_walk (.slice ab nb cb') bd pad (by omega) _ (HB.out.up (HU0.out.drew.trans HUa.out))).mono ?_
    rintro e w2 ⟨v5, rfl, hO, h9⟩
    obtain ⟨a5, c5, rfl⟩ := row_len hO
    have HO2 := Hid.of (show Ow w2 w.heap.size _ (pdd bd pad) from ow_base hO (HU0.out.drew.trans HUa.out).size)
    have HU2 := Hid.of ((HU0.out.drew.trans HUa.out).trans h9)
    have HA2 := Hid.of (((HA0.out.up (Up.refl _).drew).up HUa.out).up h9)
    have HZ2 := Hid.of (((HZ0.out.up (Up.refl _).drew).up HUa.out).up h9)
    have HR3 := Hid.of (HR1.out.up h9)
    clear h9 hO hS
    obtain ⟨L5, hL5⟩ : ∃ L5, (pdd bd pad).length = L5 := ⟨_, rfl⟩
    have HL5 := Hid.of hL5
    rw [hL5] at HO2 ⊢
    clear hL5
    dsimp only
    refine hK.out _ _ ⟨HA2.out, HZ2.out, HU2.out⟩ (fun hS => ?_)
    clear hK K
    have HO3 := Hid.of HO2.out
    clear HO2
    refine wpAnyH_take (i := 11) (oi := { dst := some 16, op := Go.Op.build 27 #[(0, Go.Operand.tmp 6), (1, Go.Operand.tmp 8), (2, Go.Operand.tmp 10), (4, Go.Operand.tmp 15)], type := 27, pos := "law.go:106", after := #[{ on := 1, ground := Go.Ground.data }, { on := 3, ground := Go.Ground.data }, { on := 5, ground := Go.Ground.data }, { on := 10, ground := Go.Ground.data }], guard := none }) (v := .agg #[.string m, .string t, .int .i64 mi, .slice none 0 0, .slice a5 L5 c5, .bool false]) rfl (by kernel_rfl) (by kernel_rfl) (by kernel_rfl) (fun _ _ _ h => h) (Or.inl ⟨by kernel_rfl, ?_⟩) hS ?_
    · intro w5 hSw
      clear hSw hS
      go_simp
    simp only [Act.put, List.setIfInBounds_toArray, List.set_cons_zero, List.set_cons_succ]
    refine wpAnyH_ready (rs := [13]) (by kernel_rfl) (by simp) ?_
    refine AllReadyH.cons (o := { dst := none, op := Go.Op.store 27 (Go.Operand.tmp 3) (Go.Operand.tmp 16), type := 0, pos := "law.go:106", after := #[{ on := 12, ground := Go.Ground.data }, { on := 11, ground := Go.Ground.data }, { on := 10, ground := Go.Ground.chain }, { on := 0, ground := Go.Ground.phase }, { on := 1, ground := Go.Ground.phase }, { on := 2, ground := Go.Ground.phase }, { on := 3, ground := Go.Ground.phase }, { on := 4, ground := Go.Ground.phase }, { on := 5, ground := Go.Ground.phase }, { on := 6, ground := Go.Ground.phase }, { on := 7, ground := Go.Ground.phase }, { on := 8, ground := Go.Ground.phase }, { on := 9, ground := Go.Ground.phase }, { on := 10, ground := Go.Ground.phase }, { on := 11, ground := Go.Ground.phase }, { on := 12, ground := Go.Ground.phase }], guard := none }) rfl (fun K hK => oper_of_list ?_) AllReadyH.nil
    refine wpList_store_at rfl 27 _ _ rfl (w1.heap.size) HR3.out ([.string m, .string t, .int .i64 mi, .slice none 0 0, .slice a5 L5 c5, .bool false]) rfl rfl rfl (by kernel_rfl) (by kernel_rfl) ?_
    intro w4 hA4 hg4
    have HR4 := Hid.of hA4
    have HU4 := Hid.of (hS.2.2.by hg4 (fun g hg => by have := Option.some.inj hg; have := HBr.out; omega))
    have HA4 := Hid.of (hS.1.by hg4 (fun e => by have := Option.some.inj e; have := HBr.out; omega))
    have HZ4 := Hid.of (hS.2.1.by hg4 (fun e => by have := Option.some.inj e; have := HBr.out; omega))
    have HO4 := Hid.of (HO3.out.kept hg4 (.inr (own_ne HO3.out HR3.out (by decide))))
    clear hA4 hg4 HR3 HO3
    refine hK.out _ _ ⟨HA4.out, HZ4.out, HU4.out⟩ (fun hS => ?_)
    clear hK K hS
    refine wpAnyH_done (by kernel_rfl) ?_ _
    obtain ⟨Br, hBr⟩ : ∃ Br, w1.heap.size = Br := ⟨_, rfl⟩
    rw [hBr] at HR4 HBr ⊢
    clear hBr
    go_wp2
    go_loopw [4] (fun v4 wr => ∃ i : Nat, v4 = .int .i64 (i : Int) ∧ i ≤ ns.length ∧ Hid (∃ a7 c7, At wr Br 27 [.string m, .string t, .int .i64 mi, .slice a7 i c7, .slice a5 L5 c5, .bool false] ∧ FdO wr w.heap.size a7 (F.take i) c7 ∧ wr.ownsRow w.heap.size 5 1 (.slice a5 L5 c5) L5 (cb (pdd bd pad)) ∧ At wr w.heap.size 52 [.string m, .string t, .int .i64 mi, .slice an ns.length cn, .slice av us.length cv, .slice ab nb cb', .int .i64 pad] ∧ At wr (w.heap.size + 1) 27 z6 ∧ Up w wr)) (fun v4 _ => ns.length - (intOf v4).toNat)
    case atStart => exact ⟨0, rfl, Nat.zero_le _, Hid.of ⟨none, 0, HR4.out, World.ownsRow_nil _ _ _ _, (by have h := HO4.out; rw [HL5.out] at h; exact h), HA4.out, HZ4.out, HU4.out⟩⟩
    case round =>
      obtain ⟨i, rfl, hi, hQ⟩ := hrel
      obtain ⟨a7, c7, q1, q2, q3, q4, q5, q6⟩ := hQ.out
      have HR7 := Hid.of q1
      have HF7 := Hid.of q2
      have HO7 := Hid.of q3
      have HA7 := Hid.of q4
      have HZ7 := Hid.of q5
      have HU7 := Hid.of q6
      have h3 := q4.cell (i := 3) rfl
      clear hQ q1 q2 q3 q4 q5 q6
      by_cases hil : i < ns.length
      · have hilz : (i : Int) < (ns.length : Int) := by omega
        have hif : i < F.length := by rw [HFl.out]; exact hil
        obtain ⟨b, off, han, k1⟩ := HN.out.cells i hil
        have HAn := Hid.of han
        clear han
        have HT := Hid.of (List.take_succ_eq_append_getElem hif)
        have HLn := Hid.of (show (F.take i).length = i by rw [List.length_take]; omega)
        have hfg := HFg.out i hil hif
        obtain ⟨f, hf⟩ : ∃ f, F[i] = f := ⟨_, rfl⟩
        rw [hf] at HT hfg
        have HFv := Hid.of (show vat us i = f.v by rw [hfg])
        have HK1 := Hid.of (show w.cell? ⟨b, off + i, none⟩ = some (.string f.n) by rw [k1, hfg])
        clear hf hfg k1
        have HRd := Hid.of (HR7.out.up (Up.refl wr).drew)
        have HFd := Hid.of (ow_up HF7.out (Up.refl wr).drew)
        have HFd' := Hid.of (show wr.drew.ownsRow w.heap.size 73 2 (.slice a7 i c7) i (fdc (F.take i)) by have := HFd.out; rw [HLn.out] at this; exact this)
        have HOd := Hid.of (ow_up HO7.out (Up.refl wr).drew)
        have HAd := Hid.of (HA7.out.up (Up.refl wr).drew)
        have HZd := Hid.of (HZ7.out.up (Up.refl wr).drew)
        go_wp2
        refine wp_region_held_drew (S := fun w2 => At w2 w.heap.size 52 [.string m, .string t, .int .i64 mi, .slice an ns.length cn, .slice av us.length cv, .slice ab nb cb', .int .i64 pad] ∧ At w2 (w.heap.size + 1) 27 z6 ∧ Up w w2) (by kernel_rfl) ⟨HA7.out.up (Up.refl _).drew, HZ7.out.up (Up.refl _).drew, HU7.out.drew⟩ (fun hS => ?_)
        refine wpAnyH_take (i := 0) (oi := { dst := some 24, op := Go.Op.fieldAddr 27 (Go.Operand.tmp 3) 3, type := 0, pos := "law.go:108", after := #[], guard := none }) (v := .pointer (some ⟨Br, 3, none⟩)) rfl (by kernel_rfl) (by kernel_rfl) (by kernel_rfl) (fun _ _ _ h => h) (Or.inl ⟨by kernel_rfl, ?_⟩) hS ?_
        · intro w5 hSw
          clear hSw hS
          go_simp
        simp only [Act.put, List.setIfInBounds_toArray, List.set_cons_zero, List.set_cons_succ]
        refine wpAnyH_take (i := 2) (oi := { dst := some 26, op := Go.Op.fieldAddr 52 (Go.Operand.tmp 1) 3, type := 0, pos := "law.go:108", after := #[], guard := none }) (v := .pointer (some ⟨w.heap.size, 3, none⟩)) rfl (by kernel_rfl) (by kernel_rfl) (by kernel_rfl) (fun _ _ _ h => h) (Or.inl ⟨by kernel_rfl, ?_⟩) hS ?_
        · intro w5 hSw
          clear hSw hS
          go_simp
        simp only [Act.put, List.setIfInBounds_toArray, List.set_cons_zero, List.set_cons_succ]
        refine wpAnyH_take (i := 3) (oi := { dst := some 27, op := Go.Op.load 50 (Go.Operand.tmp 26), type := 50, pos := "law.go:108", after := #[{ on := 2, ground := Go.Ground.data }], guard := none }) (v := .slice (some ⟨b, off, none⟩) ns.length cn) rfl (by kernel_rfl) (by kernel_rfl) (by kernel_rfl) (fun _ _ _ h => h) (Or.inl ⟨by kernel_rfl, ?_⟩) hS ?_
        · intro w5 hSw
          have h0 := hSw.1.cell (i := 3) rfl
          rw [HAn.out] at h0
          clear hSw hS
          go_simp
        simp only [Act.put, List.setIfInBounds_toArray, List.set_cons_zero, List.set_cons_succ]
        refine wpAnyH_take (i := 4) (oi := { dst := some 28, op := Go.Op.move (Go.Operand.tmp 4), type := 3, pos := "law.go:108", after := #[], guard := none }) (v := .int .i64 (i : Int)) rfl (by kernel_rfl) (by kernel_rfl) (by kernel_rfl) (fun _ _ _ h => h) (Or.inl ⟨by kernel_rfl, ?_⟩) hS ?_
        · intro w5 hSw
          clear hSw hS
          go_simp
        simp only [Act.put, List.setIfInBounds_toArray, List.set_cons_zero, List.set_cons_succ]
        refine wpAnyH_take (i := 5) (oi := { dst := some 29, op := Go.Op.indexAddr 50 (Go.Operand.tmp 27) (Go.Operand.tmp 28), type := 0, pos := "law.go:108", after := #[{ on := 3, ground := Go.Ground.data }, { on := 4, ground := Go.Ground.data }], guard := none }) (v := .pointer (some ⟨b, off + i, none⟩)) rfl (by kernel_rfl) (by kernel_rfl) (by kernel_rfl) (fun _ _ _ h => h) (Or.inl ⟨by kernel_rfl, ?_⟩) hS ?_
        · intro w5 hSw
          clear hSw hS
          go_simp
        simp only [Act.put, List.setIfInBounds_toArray, List.set_cons_zero, List.set_cons_succ]
        refine wpAnyH_take (i := 6) (oi := { dst := some 30, op := Go.Op.load 9 (Go.Operand.tmp 29), type := 9, pos := "law.go:108", after := #[{ on := 5, ground := Go.Ground.data }], guard := none }) (v := .string f.n) rfl (by kernel_rfl) (by kernel_rfl) (by kernel_rfl) (fun _ _ _ h => h) (Or.inl ⟨by kernel_rfl, ?_⟩) hS ?_
        · intro w5 hSw
          have h0 := hSw.2.2.cell HK1.out
          clear hSw hS
          go_simp
        simp only [Act.put, List.setIfInBounds_toArray, List.set_cons_zero, List.set_cons_succ]
        refine wpAnyH_take (i := 7) (oi := { dst := some 31, op := Go.Op.fieldAddr 52 (Go.Operand.tmp 1) 4, type := 0, pos := "law.go:108", after := #[], guard := none }) (v := .pointer (some ⟨w.heap.size, 4, none⟩)) rfl (by kernel_rfl) (by kernel_rfl) (by kernel_rfl) (fun _ _ _ h => h) (Or.inl ⟨by kernel_rfl, ?_⟩) hS ?_
        · intro w5 hSw
          clear hSw hS
          go_simp
        simp only [Act.put, List.setIfInBounds_toArray, List.set_cons_zero, List.set_cons_succ]
        refine wpAnyH_take (i := 8) (oi := { dst := some 32, op := Go.Op.load 50 (Go.Operand.tmp 31), type := 50, pos := "law.go:108", after := #[{ on := 7, ground := Go.Ground.data }], guard := none }) (v := .slice av us.length cv) rfl (by kernel_rfl) (by kernel_rfl) (by kernel_rfl) (fun _ _ _ h => h) (Or.inl ⟨by kernel_rfl, ?_⟩) hS ?_
        · intro w5 hSw
          have h0 := hSw.1.cell (i := 4) rfl
          clear hSw hS
          go_simp
        simp only [Act.put, List.setIfInBounds_toArray, List.set_cons_zero, List.set_cons_succ]
        refine wpAnyH_take (i := 9) (oi := { dst := some 33, op := Go.Op.move (Go.Operand.tmp 4), type := 3, pos := "law.go:108", after := #[], guard := none }) (v := .int .i64 (i : Int)) rfl (by kernel_rfl) (by kernel_rfl) (by kernel_rfl) (fun _ _ _ h => h) (Or.inl ⟨by kernel_rfl, ?_⟩) hS ?_
        · intro w5 hSw
          clear hSw hS
          go_simp
        simp only [Act.put, List.setIfInBounds_toArray, List.set_cons_zero, List.set_cons_succ]
        refine wpAnyH_ready (rs := [1, 10]) (by kernel_rfl) (by simp) ?_
        refine AllReadyH.cons (o := { dst := some 25, op := Go.Op.load 25 (Go.Operand.tmp 24), type := 25, pos := "law.go:108", after := #[{ on := 0, ground := Go.Ground.data }], guard := none }) rfl (fun K hK => ?_) (AllReadyH.cons (o := { dst := some 34, op := Go.Op.call { callee := Go.Callee.value (Go.Operand.func 38), args := #[Go.Operand.tmp 32, Go.Operand.tmp 33], argTypes := #[50, 3] }, type := 9, pos := "law.go:108", after := #[{ on := 8, ground := Go.Ground.data }, { on := 9, ground := Go.Ground.data }], guard := none }) rfl (fun K hK => ?_) AllReadyH.nil)
        · rw [if_pos (by kernel_rfl)]
          have k3 := HRd.out.cell (i := 3) rfl
          go_simp
          refine hK.out _ _ hS (fun hS => ?_)
          clear hK K k3
          refine wpAnyH_ready (rs := [10]) (by kernel_rfl) (by simp) ?_
          refine AllReadyH.cons (o := { dst := some 34, op := Go.Op.call { callee := Go.Callee.value (Go.Operand.func 38), args := #[Go.Operand.tmp 32, Go.Operand.tmp 33], argTypes := #[50, 3] }, type := 9, pos := "law.go:108", after := #[{ on := 8, ground := Go.Ground.data }, { on := 9, ground := Go.Ground.data }], guard := none }) rfl (fun K hK => ?_) AllReadyH.nil
          rw [if_pos (by kernel_rfl)]
          go_simp
          refine (value_walk av us cv i wr.drew (HV.out.up HU7.out.drew)).mono ?_
          rintro e w5 ⟨rfl, h9⟩
          obtain rfl := h9.symm
          clear h9
          rw [HFv.out]
          dsimp only
          refine hK.out _ _ hS (fun hS => ?_)
          clear hK K
          refine wpAnyH_take (i := 11) (oi := { dst := some 35, op := Go.Op.build 73 #[(0, Go.Operand.tmp 30), (1, Go.Operand.tmp 34)], type := 73, pos := "law.go:108", after := #[{ on := 6, ground := Go.Ground.data }, { on := 10, ground := Go.Ground.data }], guard := none }) (v := .agg #[.string f.n, .string f.v]) rfl (by kernel_rfl) (by kernel_rfl) (by kernel_rfl) (fun _ _ _ h => h) (Or.inl ⟨by kernel_rfl, ?_⟩) hS ?_
          · intro w5 hSw
            clear hSw hS
            go_simp
          simp only [Act.put, List.setIfInBounds_toArray, List.set_cons_zero, List.set_cons_succ]
          refine wpAnyH_ready (rs := [12]) (by kernel_rfl) (by simp) ?_
          refine AllReadyH.cons (o := { dst := some 36, op := Go.Op.buildSlice 25 1 #[(0, Go.Operand.tmp 35)], type := 25, pos := "law.go:108", after := #[{ on := 11, ground := Go.Ground.data }], guard := none }) rfl (fun K hK => ?_) AllReadyH.nil
          rw [if_pos (by kernel_rfl)]
          go_simp
          refine hK.out _ _ ⟨hS.1.up ((Up.refl _).alloc _), hS.2.1.up ((Up.refl _).alloc _), hS.2.2.alloc _⟩ (fun hS => ?_)
          clear hK K
          refine wpAnyH_ready (rs := [13]) (by kernel_rfl) (by simp) ?_
          refine AllReadyH.cons (o := { dst := some 37, op := Go.Op.call { callee := Go.Callee.builtin Go.Builtin.append, args := #[Go.Operand.tmp 25, Go.Operand.tmp 36], argTypes := #[25, 25] }, type := 25, pos := "law.go:108", after := #[{ on := 1, ground := Go.Ground.data }, { on := 12, ground := Go.Ground.data }, { on := 10, ground := Go.Ground.chain }], guard := none }) rfl (fun K hK => oper_of_list ?_) AllReadyH.nil
          refine wpList_appFd (w := wr.drew) (N := w.heap.size) rfl _ _ rfl a7 c7 (F.take i) f HLn.out rfl rfl HFd.out HU7.out.drew.size (by omega) ?_
          intro ax2 cx2 w7 o7 u7 g7
          have HU8 := Hid.of (u7 w HU7.out.drew (Nat.le_refl _))
          have HR8 := Hid.of (HRd.out.by g7 (own_ne HFd'.out HRd.out (by decide)))
          have HA8 := Hid.of (HAd.out.by g7 (own_ne HFd'.out HAd.out (by decide)))
          have HZ8 := Hid.of (HZd.out.by g7 (own_ne HFd'.out HZd.out (by decide)))
          have HB8 := Hid.of (HOd.out.kept g7 (own_off HOd.out HFd'.out (by decide)))
          have HF8 := Hid.of (show FdO w7 w.heap.size ax2 (F.take (i + 1)) cx2 by rw [HT.out]; exact o7)
          clear o7 u7 g7
          refine hK.out _ _ ⟨HA8.out, HZ8.out, HU8.out⟩ (fun hS => ?_)
          clear hK K
          simp only [Act.put, List.setIfInBounds_toArray, List.set_cons_zero, List.set_cons_succ]
          refine wpAnyH_take (i := 14) (oi := { dst := some 38, op := Go.Op.fieldAddr 27 (Go.Operand.tmp 3) 3, type := 0, pos := "law.go:108", after := #[{ on := 0, ground := Go.Ground.phase }, { on := 1, ground := Go.Ground.phase }, { on := 2, ground := Go.Ground.phase }, { on := 3, ground := Go.Ground.phase }, { on := 4, ground := Go.Ground.phase }, { on := 5, ground := Go.Ground.phase }, { on := 6, ground := Go.Ground.phase }, { on := 7, ground := Go.Ground.phase }, { on := 8, ground := Go.Ground.phase }, { on := 9, ground := Go.Ground.phase }, { on := 10, ground := Go.Ground.phase }, { on := 11, ground := Go.Ground.phase }, { on := 12, ground := Go.Ground.phase }, { on := 13, ground := Go.Ground.phase }], guard := none }) (v := .pointer (some ⟨Br, 3, none⟩)) rfl (by kernel_rfl) (by kernel_rfl) (by kernel_rfl) (fun _ _ _ h => h) (Or.inl ⟨by kernel_rfl, ?_⟩) hS ?_
          · intro w5 hSw
            clear hSw hS
            go_simp
          simp only [Act.put, List.setIfInBounds_toArray, List.set_cons_zero, List.set_cons_succ]
          refine wpAnyH_ready (rs := [15]) (by kernel_rfl) (by simp) ?_
          refine AllReadyH.cons (o := { dst := none, op := Go.Op.store 25 (Go.Operand.tmp 38) (Go.Operand.tmp 37), type := 0, pos := "law.go:108", after := #[{ on := 14, ground := Go.Ground.data }, { on := 13, ground := Go.Ground.data }, { on := 13, ground := Go.Ground.chain }, { on := 0, ground := Go.Ground.phase }, { on := 1, ground := Go.Ground.phase }, { on := 2, ground := Go.Ground.phase }, { on := 3, ground := Go.Ground.phase }, { on := 4, ground := Go.Ground.phase }, { on := 5, ground := Go.Ground.phase }, { on := 6, ground := Go.Ground.phase }, { on := 7, ground := Go.Ground.phase }, { on := 8, ground := Go.Ground.phase }, { on := 9, ground := Go.Ground.phase }, { on := 10, ground := Go.Ground.phase }, { on := 11, ground := Go.Ground.phase }, { on := 12, ground := Go.Ground.phase }, { on := 13, ground := Go.Ground.phase }], guard := none }) rfl (fun K hK => ?_) AllReadyH.nil
          have k3 := HR8.out.cell (i := 3) rfl
          have f3 := HR8.out.thaw 3
          have G8 := grown_set1 w7 Br 3 (.slice ax2 (i + 1) cx2)
          have HR9 := Hid.of (HR8.out.set 3 (.slice ax2 (i + 1) cx2))
          have HU9 := Hid.of (HU8.out.by G8 (fun g hg => by have := Option.some.inj hg; have := HBr.out; omega))
          have HA9 := Hid.of (HA8.out.by G8 (fun e => by have := Option.some.inj e; have := HBr.out; omega))
          have HZ9 := Hid.of (HZ8.out.by G8 (fun e => by have := Option.some.inj e; have := HBr.out; omega))
          have HB9 := Hid.of (HB8.out.kept G8 (.inr (own_ne HB8.out HR8.out (by decide))))
          have HF9 := Hid.of (show FdO (w7.setCell ⟨Br, 3, none⟩ (.slice ax2 (i + 1) cx2)) w.heap.size ax2 (F.take (i + 1)) cx2 from HF8.out.kept G8 (.inr (own_ne HF8.out HR8.out (by decide))))
          clear G8
          rw [if_pos (by kernel_rfl)]
          go_simp
          refine hK.out _ _ ⟨HA9.out, HZ9.out, HU9.out⟩ (fun hS => ?_)
          clear hK K hS
          refine wpAnyH_done (by kernel_rfl) ?_ _
          go_wp2
          go_roundw
          all_goals first
            | exact ⟨i + 1, by go_num, by omega, Hid.of ⟨ax2, cx2, HR9.out, HF9.out, HB9.out, HA9.out, HZ9.out, HU9.out⟩⟩
            | (simp [intOf]; omega)
        · rw [if_pos (by kernel_rfl)]
          go_simp
          refine (value_walk av us cv i wr.drew (HV.out.up HU7.out.drew)).mono ?_
          rintro e w5 ⟨rfl, h9⟩
          obtain rfl := h9.symm
          clear h9
          rw [HFv.out]
          dsimp only
          refine hK.out _ _ hS (fun hS => ?_)
          clear hK K
          refine wpAnyH_take (i := 11) (oi := { dst := some 35, op := Go.Op.build 73 #[(0, Go.Operand.tmp 30), (1, Go.Operand.tmp 34)], type := 73, pos := "law.go:108", after := #[{ on := 6, ground := Go.Ground.data }, { on := 10, ground := Go.Ground.data }], guard := none }) (v := .agg #[.string f.n, .string f.v]) rfl (by kernel_rfl) (by kernel_rfl) (by kernel_rfl) (fun _ _ _ h => h) (Or.inl ⟨by kernel_rfl, ?_⟩) hS ?_
          · intro w5 hSw
            clear hSw hS
            go_simp
          simp only [Act.put, List.setIfInBounds_toArray, List.set_cons_zero, List.set_cons_succ]
          refine wpAnyH_ready (rs := [1, 12]) (by kernel_rfl) (by simp) ?_
          refine AllReadyH.cons (o := { dst := some 25, op := Go.Op.load 25 (Go.Operand.tmp 24), type := 25, pos := "law.go:108", after := #[{ on := 0, ground := Go.Ground.data }], guard := none }) rfl (fun K hK => ?_) (AllReadyH.cons (o := { dst := some 36, op := Go.Op.buildSlice 25 1 #[(0, Go.Operand.tmp 35)], type := 25, pos := "law.go:108", after := #[{ on := 11, ground := Go.Ground.data }], guard := none }) rfl (fun K hK => ?_) AllReadyH.nil)
          · rw [if_pos (by kernel_rfl)]
            have k3 := HRd.out.cell (i := 3) rfl
            go_simp
            refine hK.out _ _ hS (fun hS => ?_)
            clear hK K k3
            refine wpAnyH_ready (rs := [12]) (by kernel_rfl) (by simp) ?_
            refine AllReadyH.cons (o := { dst := some 36, op := Go.Op.buildSlice 25 1 #[(0, Go.Operand.tmp 35)], type := 25, pos := "law.go:108", after := #[{ on := 11, ground := Go.Ground.data }], guard := none }) rfl (fun K hK => ?_) AllReadyH.nil
            rw [if_pos (by kernel_rfl)]
            go_simp
            refine hK.out _ _ ⟨hS.1.up ((Up.refl _).alloc _), hS.2.1.up ((Up.refl _).alloc _), hS.2.2.alloc _⟩ (fun hS => ?_)
            clear hK K
            refine wpAnyH_ready (rs := [13]) (by kernel_rfl) (by simp) ?_
            refine AllReadyH.cons (o := { dst := some 37, op := Go.Op.call { callee := Go.Callee.builtin Go.Builtin.append, args := #[Go.Operand.tmp 25, Go.Operand.tmp 36], argTypes := #[25, 25] }, type := 25, pos := "law.go:108", after := #[{ on := 1, ground := Go.Ground.data }, { on := 12, ground := Go.Ground.data }, { on := 10, ground := Go.Ground.chain }], guard := none }) rfl (fun K hK => oper_of_list ?_) AllReadyH.nil
            refine wpList_appFd (w := wr.drew) (N := w.heap.size) rfl _ _ rfl a7 c7 (F.take i) f HLn.out rfl rfl HFd.out HU7.out.drew.size (by omega) ?_
            intro ax2 cx2 w7 o7 u7 g7
            have HU8 := Hid.of (u7 w HU7.out.drew (Nat.le_refl _))
            have HR8 := Hid.of (HRd.out.by g7 (own_ne HFd'.out HRd.out (by decide)))
            have HA8 := Hid.of (HAd.out.by g7 (own_ne HFd'.out HAd.out (by decide)))
            have HZ8 := Hid.of (HZd.out.by g7 (own_ne HFd'.out HZd.out (by decide)))
            have HB8 := Hid.of (HOd.out.kept g7 (own_off HOd.out HFd'.out (by decide)))
            have HF8 := Hid.of (show FdO w7 w.heap.size ax2 (F.take (i + 1)) cx2 by rw [HT.out]; exact o7)
            clear o7 u7 g7
            refine hK.out _ _ ⟨HA8.out, HZ8.out, HU8.out⟩ (fun hS => ?_)
            clear hK K
            simp only [Act.put, List.setIfInBounds_toArray, List.set_cons_zero, List.set_cons_succ]
            refine wpAnyH_take (i := 14) (oi := { dst := some 38, op := Go.Op.fieldAddr 27 (Go.Operand.tmp 3) 3, type := 0, pos := "law.go:108", after := #[{ on := 0, ground := Go.Ground.phase }, { on := 1, ground := Go.Ground.phase }, { on := 2, ground := Go.Ground.phase }, { on := 3, ground := Go.Ground.phase }, { on := 4, ground := Go.Ground.phase }, { on := 5, ground := Go.Ground.phase }, { on := 6, ground := Go.Ground.phase }, { on := 7, ground := Go.Ground.phase }, { on := 8, ground := Go.Ground.phase }, { on := 9, ground := Go.Ground.phase }, { on := 10, ground := Go.Ground.phase }, { on := 11, ground := Go.Ground.phase }, { on := 12, ground := Go.Ground.phase }, { on := 13, ground := Go.Ground.phase }], guard := none }) (v := .pointer (some ⟨Br, 3, none⟩)) rfl (by kernel_rfl) (by kernel_rfl) (by kernel_rfl) (fun _ _ _ h => h) (Or.inl ⟨by kernel_rfl, ?_⟩) hS ?_
            · intro w5 hSw
              clear hSw hS
              go_simp
            simp only [Act.put, List.setIfInBounds_toArray, List.set_cons_zero, List.set_cons_succ]
            refine wpAnyH_ready (rs := [15]) (by kernel_rfl) (by simp) ?_
            refine AllReadyH.cons (o := { dst := none, op := Go.Op.store 25 (Go.Operand.tmp 38) (Go.Operand.tmp 37), type := 0, pos := "law.go:108", after := #[{ on := 14, ground := Go.Ground.data }, { on := 13, ground := Go.Ground.data }, { on := 13, ground := Go.Ground.chain }, { on := 0, ground := Go.Ground.phase }, { on := 1, ground := Go.Ground.phase }, { on := 2, ground := Go.Ground.phase }, { on := 3, ground := Go.Ground.phase }, { on := 4, ground := Go.Ground.phase }, { on := 5, ground := Go.Ground.phase }, { on := 6, ground := Go.Ground.phase }, { on := 7, ground := Go.Ground.phase }, { on := 8, ground := Go.Ground.phase }, { on := 9, ground := Go.Ground.phase }, { on := 10, ground := Go.Ground.phase }, { on := 11, ground := Go.Ground.phase }, { on := 12, ground := Go.Ground.phase }, { on := 13, ground := Go.Ground.phase }], guard := none }) rfl (fun K hK => ?_) AllReadyH.nil
            have k3 := HR8.out.cell (i := 3) rfl
            have f3 := HR8.out.thaw 3
            have G8 := grown_set1 w7 Br 3 (.slice ax2 (i + 1) cx2)
            have HR9 := Hid.of (HR8.out.set 3 (.slice ax2 (i + 1) cx2))
            have HU9 := Hid.of (HU8.out.by G8 (fun g hg => by have := Option.some.inj hg; have := HBr.out; omega))
            have HA9 := Hid.of (HA8.out.by G8 (fun e => by have := Option.some.inj e; have := HBr.out; omega))
            have HZ9 := Hid.of (HZ8.out.by G8 (fun e => by have := Option.some.inj e; have := HBr.out; omega))
            have HB9 := Hid.of (HB8.out.kept G8 (.inr (own_ne HB8.out HR8.out (by decide))))
            have HF9 := Hid.of (show FdO (w7.setCell ⟨Br, 3, none⟩ (.slice ax2 (i + 1) cx2)) w.heap.size ax2 (F.take (i + 1)) cx2 from HF8.out.kept G8 (.inr (own_ne HF8.out HR8.out (by decide))))
            clear G8
            rw [if_pos (by kernel_rfl)]
            go_simp
            refine hK.out _ _ ⟨HA9.out, HZ9.out, HU9.out⟩ (fun hS => ?_)
            clear hK K hS
            refine wpAnyH_done (by kernel_rfl) ?_ _
            go_wp2
            go_roundw
            all_goals first
              | exact ⟨i + 1, by go_num, by omega, Hid.of ⟨ax2, cx2, HR9.out, HF9.out, HB9.out, HA9.out, HZ9.out, HU9.out⟩⟩
              | (simp [intOf]; omega)
          · rw [if_pos (by kernel_rfl)]
            go_simp
            refine hK.out _ _ ⟨hS.1.up ((Up.refl _).alloc _), hS.2.1.up ((Up.refl _).alloc _), hS.2.2.alloc _⟩ (fun hS => ?_)
            clear hK K
            refine wpAnyH_ready (rs := [1]) (by kernel_rfl) (by simp) ?_
            refine AllReadyH.cons (o := { dst := some 25, op := Go.Op.load 25 (Go.Operand.tmp 24), type := 25, pos := "law.go:108", after := #[{ on := 0, ground := Go.Ground.data }], guard := none }) rfl (fun K hK => ?_) AllReadyH.nil
            rw [if_pos (by kernel_rfl)]
            have k3 := ((HR7.out.up ((Up.refl wr).alloc (.cells #[.string f.n, .string f.v] 73))).up (Up.refl _).drew).cell (i := 3) rfl
            go_simp
            refine hK.out _ _ hS (fun hS => ?_)
            clear hK K k3
            refine wpAnyH_ready (rs := [13]) (by kernel_rfl) (by simp) ?_
            refine AllReadyH.cons (o := { dst := some 37, op := Go.Op.call { callee := Go.Callee.builtin Go.Builtin.append, args := #[Go.Operand.tmp 25, Go.Operand.tmp 36], argTypes := #[25, 25] }, type := 25, pos := "law.go:108", after := #[{ on := 1, ground := Go.Ground.data }, { on := 12, ground := Go.Ground.data }, { on := 10, ground := Go.Ground.chain }], guard := none }) rfl (fun K hK => oper_of_list ?_) AllReadyH.nil
            refine wpList_appFd (w := wr.drew) (N := w.heap.size) rfl _ _ rfl a7 c7 (F.take i) f HLn.out rfl rfl HFd.out HU7.out.drew.size (by omega) ?_
            intro ax2 cx2 w7 o7 u7 g7
            have HU8 := Hid.of (u7 w HU7.out.drew (Nat.le_refl _))
            have HR8 := Hid.of (HRd.out.by g7 (own_ne HFd'.out HRd.out (by decide)))
            have HA8 := Hid.of (HAd.out.by g7 (own_ne HFd'.out HAd.out (by decide)))
            have HZ8 := Hid.of (HZd.out.by g7 (own_ne HFd'.out HZd.out (by decide)))
            have HB8 := Hid.of (HOd.out.kept g7 (own_off HOd.out HFd'.out (by decide)))
            have HF8 := Hid.of (show FdO w7 w.heap.size ax2 (F.take (i + 1)) cx2 by rw [HT.out]; exact o7)
            clear o7 u7 g7
            refine hK.out _ _ ⟨HA8.out, HZ8.out, HU8.out⟩ (fun hS => ?_)
            clear hK K
            simp only [Act.put, List.setIfInBounds_toArray, List.set_cons_zero, List.set_cons_succ]
            refine wpAnyH_take (i := 14) (oi := { dst := some 38, op := Go.Op.fieldAddr 27 (Go.Operand.tmp 3) 3, type := 0, pos := "law.go:108", after := #[{ on := 0, ground := Go.Ground.phase }, { on := 1, ground := Go.Ground.phase }, { on := 2, ground := Go.Ground.phase }, { on := 3, ground := Go.Ground.phase }, { on := 4, ground := Go.Ground.phase }, { on := 5, ground := Go.Ground.phase }, { on := 6, ground := Go.Ground.phase }, { on := 7, ground := Go.Ground.phase }, { on := 8, ground := Go.Ground.phase }, { on := 9, ground := Go.Ground.phase }, { on := 10, ground := Go.Ground.phase }, { on := 11, ground := Go.Ground.phase }, { on := 12, ground := Go.Ground.phase }, { on := 13, ground := Go.Ground.phase }], guard := none }) (v := .pointer (some ⟨Br, 3, none⟩)) rfl (by kernel_rfl) (by kernel_rfl) (by kernel_rfl) (fun _ _ _ h => h) (Or.inl ⟨by kernel_rfl, ?_⟩) hS ?_
            · intro w5 hSw
              clear hSw hS
              go_simp
            simp only [Act.put, List.setIfInBounds_toArray, List.set_cons_zero, List.set_cons_succ]
            refine wpAnyH_ready (rs := [15]) (by kernel_rfl) (by simp) ?_
            refine AllReadyH.cons (o := { dst := none, op := Go.Op.store 25 (Go.Operand.tmp 38) (Go.Operand.tmp 37), type := 0, pos := "law.go:108", after := #[{ on := 14, ground := Go.Ground.data }, { on := 13, ground := Go.Ground.data }, { on := 13, ground := Go.Ground.chain }, { on := 0, ground := Go.Ground.phase }, { on := 1, ground := Go.Ground.phase }, { on := 2, ground := Go.Ground.phase }, { on := 3, ground := Go.Ground.phase }, { on := 4, ground := Go.Ground.phase }, { on := 5, ground := Go.Ground.phase }, { on := 6, ground := Go.Ground.phase }, { on := 7, ground := Go.Ground.phase }, { on := 8, ground := Go.Ground.phase }, { on := 9, ground := Go.Ground.phase }, { on := 10, ground := Go.Ground.phase }, { on := 11, ground := Go.Ground.phase }, { on := 12, ground := Go.Ground.phase }, { on := 13, ground := Go.Ground.phase }], guard := none }) rfl (fun K hK => ?_) AllReadyH.nil
            have k3 := HR8.out.cell (i := 3) rfl
            have f3 := HR8.out.thaw 3
            have G8 := grown_set1 w7 Br 3 (.slice ax2 (i + 1) cx2)
            have HR9 := Hid.of (HR8.out.set 3 (.slice ax2 (i + 1) cx2))
            have HU9 := Hid.of (HU8.out.by G8 (fun g hg => by have := Option.some.inj hg; have := HBr.out; omega))
            have HA9 := Hid.of (HA8.out.by G8 (fun e => by have := Option.some.inj e; have := HBr.out; omega))
            have HZ9 := Hid.of (HZ8.out.by G8 (fun e => by have := Option.some.inj e; have := HBr.out; omega))
            have HB9 := Hid.of (HB8.out.kept G8 (.inr (own_ne HB8.out HR8.out (by decide))))
            have HF9 := Hid.of (show FdO (w7.setCell ⟨Br, 3, none⟩ (.slice ax2 (i + 1) cx2)) w.heap.size ax2 (F.take (i + 1)) cx2 from HF8.out.kept G8 (.inr (own_ne HF8.out HR8.out (by decide))))
            clear G8
            rw [if_pos (by kernel_rfl)]
            go_simp
            refine hK.out _ _ ⟨HA9.out, HZ9.out, HU9.out⟩ (fun hS => ?_)
            clear hK K hS
            refine wpAnyH_done (by kernel_rfl) ?_ _
            go_wp2
            go_roundw
            all_goals first
              | exact ⟨i + 1, by go_num, by omega, Hid.of ⟨ax2, cx2, HR9.out, HF9.out, HB9.out, HA9.out, HZ9.out, HU9.out⟩⟩
              | (simp [intOf]; omega)
      · have hilz : ¬ (i : Int) < (ns.length : Int) := by omega
        have hin : i = ns.length := by omega
        subst hin
        have HF8 := Hid.of (show FdO wr w.heap.size a7 F c7 by
          have h1 := HF7.out
          rw [List.take_of_length_le (by rw [HFl.out]; exact Nat.le_refl _)] at h1
          exact h1)
        go_wp2_with (with_reducible show wpList _ _ _ ({ dst := _, op := Op.load 27 _, type := _, pos := _, after := _, guard := _ } :: _) _ _; refine Shut.out ?_)
        show wpList _ _ _ _ _ _
        refine wpList_load_mid rfl _ _ rfl Br 0 rfl [.string m, .string t, .int .i64 mi, .slice a7 ns.length c7, .slice a5 L5 c5, .bool false] _ HR7.out.range Tryz.underlying27 rfl (by kernel_rfl) ?_
        simp only [Act.put, List.setIfInBounds_toArray, List.set_cons_zero, List.set_cons_succ]
        refine wpList_store_at rfl 27 _ _ rfl (w.heap.size + 1) HZ7.out [.string m, .string t, .int .i64 mi, .slice a7 ns.length c7, .slice a5 L5 c5, .bool false] rfl rfl rfl (by kernel_rfl) (by kernel_rfl) ?_
        intro w8 hA8 hg8
        have HA8 := Hid.of hA8
        have HU8 := Hid.of (HU7.out.by hg8 (fun g hg => by have := Option.some.inj hg; omega))
        have HF9 := Hid.of (show FdO w8 w.heap.size a7 F c7 from HF8.out.kept hg8 (.inr (own_ne HF8.out HZ7.out (by decide))))
        have HO9 := Hid.of (HO7.out.kept hg8 (.inr (own_ne HO7.out HZ7.out (by decide))))
        clear hA8 hg8
        simp only [Act.put]
        repeat go_step
        refine bodyPost_ret (results_agg1 Tryz.results20 _ _ (w.heap.size + 1) [.string m, .string t, .int .i64 mi, .slice a7 ns.length c7, .slice a5 L5 c5, .bool false] rfl HA8.out.range Tryz.underlying27 rfl (by kernel_rfl)) rfl ?_
        exact ⟨⟨a7, c7, _, rfl, Hid.of ⟨HF9.out, by unfold Ow; rw [HL5.out]; exact HO9.out⟩⟩, HU8.out⟩
end Go.Proofs.YtbgjnghjddcooaaGreatDoor
