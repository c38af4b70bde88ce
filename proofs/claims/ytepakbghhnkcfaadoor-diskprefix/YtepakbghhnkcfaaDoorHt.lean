import Derived.Test.YtepakbghhnkcfaaDoorHs
namespace Go.Proofs.YtepakbghhnkcfaaDoor
open Go.RowKit Go.Shelf TextNum ModNum
/-- what DiskPrefix's loop keeps -/
structure PJ (W w : World) (D : Nat) (s : DD) (a : Option Addr) (c : Nat) (xs : List Value) (K : List (List UInt8)) : Prop where
  ok : DOk w W.heap.size D (4 * K.length) s
  up : Up W w
  lo : ∀ k, own D s k → W.heap.size ≤ k
  kr : KR w W.heap.size D s a c xs K
  st : s.dead = false ∧ s.unt = 0 ∧ s.room = 1073741824 ∧ s.las = (fun _ => none) ∧ s.of = [] ∧ s.trn = K.length ∧ s.acts = 2 * K.length ∧ s.n0 = 0
  pf : PF s.chs s.nf K
  cw : CW s
  sz : ∀ ds ∈ K, ds ≠ [] ∧ ds.length ≤ 1048576
  kl : K.length ≤ 100
theorem PJ.upTo {W w w' : World} {D : Nat} {s : DD} {a : Option Addr} {c : Nat} {xs : List Value} {K : List (List UInt8)} (h : PJ W w D s a c xs K) (u : Up w w') : PJ W w' D s a c xs K :=
  ⟨h.ok.up u, h.up.trans u, h.lo, h.kr.up u, h.st, h.pf, h.cw, h.sz, h.kl⟩
theorem PF.nil : PF [] [] [] := ⟨rfl, rfl, fun i h => by cases h⟩
theorem PF.snoc {chs : List NA} {nf : LG} {K : List (List UInt8)} (h : PF chs nf K) {c : NA} {p : List UInt8 × FL} {ds : List UInt8} (h1 : p.1 = ltr K.length) (h2 : p.2.lb = []) (h3 : p.2.nb = ds) (h4 : ∃ l, p.2.lo = [l] ∧ l.p = 0 ∧ l.ds = ds ∧ l.tn = (K.length : Int)) (h5 : c.kd = 0) (h6 : c.s.data.toList = ltr K.length) (h7 : c.f = p.2.b) : PF (chs ++ [c]) (nf ++ [p]) (K ++ [ds]) := by
  have hn := h.nl
  have hc := h.cl
  refine ⟨by simp [hn], by simp [hc], fun i hi => ?_⟩
  rcases Nat.lt_or_ge i K.length with hl | hl
  · simp only [List.getElem_append_left hl, List.getElem_append_left (show i < nf.length by omega), List.getElem_append_left (show i < chs.length by omega)]
    exact h.fl i hl
  · have e : i = K.length := by rw [List.length_append] at hi; simp at hi; omega
    subst e
    have e1 : (nf ++ [p])[K.length]'(by simp [hn]) = p := by
      rw [List.getElem_append_right (by omega)]
      simp [hn]
    have e2 : (chs ++ [c])[K.length]'(by simp [hc]) = c := by
      rw [List.getElem_append_right (by omega)]
      simp [hc]
    have e3 : (K ++ [ds])[K.length]'(by simp) = ds := by
      rw [List.getElem_append_right (by omega)]
      simp
    rw [e1, e2, e3]
    exact ⟨h1, h2, h3, h4, h5, h6, h7⟩
theorem PF.names {chs : List NA} {nf : LG} {K : List (List UInt8)} (h : PF chs nf K) (hK : K.length ≤ 99) : ltr K.length ∉ nf.map (·.1) := fun hm => by
  obtain ⟨p, hp, e⟩ := List.mem_map.1 hm
  obtain ⟨i, hi, rfl⟩ := List.getElem_of_mem hp
  have hn := h.nl
  have := ltr_inj i (by omega) K.length (by omega) ((h.fl i (by omega)).1.symm.trans e)
  omega
theorem PF.usd {chs : List NA} {nf : LG} {K : List (List UInt8)} (h : PF chs nf K) (hs : ∀ ds ∈ K, ds.length ≤ 1048576) : usd nf ≤ K.length * 1048576 := by
  have h1 := sum_leX (X := 1048576) (nf.map fun p => p.2.nb.length) (fun x hx => by
    obtain ⟨p, hp, rfl⟩ := List.mem_map.1 hx
    obtain ⟨i, hi, rfl⟩ := List.getElem_of_mem hp
    have hn := h.nl
    rw [(h.fl i (by omega)).2.2.1]
    exact hs _ (List.getElem_mem _))
  rw [List.length_map, h.nl] at h1
  exact h1
theorem PF.lsd {chs : List NA} {nf : LG} {K : List (List UInt8)} (h : PF chs nf K) : lsd (nf.map (·.2)) = K.length := by
  have hn := h.nl
  have : (nf.map (·.2)).map (fun f => f.lo.length) = List.replicate nf.length 1 := by
    rw [List.map_map]
    refine List.eq_replicate_iff.2 ⟨by simp, fun x hx => ?_⟩
    obtain ⟨p, hp, rfl⟩ := List.mem_map.1 hx
    obtain ⟨i, hi, rfl⟩ := List.getElem_of_mem hp
    obtain ⟨_, _, _, ⟨l, hl, _⟩, _⟩ := h.fl i (by omega)
    show nf[i].2.lo.length = 1
    rw [hl]
    rfl
  unfold Go.Proofs.YtepakbghhnkcfaaDoor.lsd
  rw [this, List.sum_replicate_nat]
  omega
/-- one file more -/
theorem PJ.made {W w w3 w4 w5 : World} {D F bp b2 : Nat} {s s5 : DD} {a : Option Addr} {c : Nat} {xs : List Value} {K : List (List UInt8)} {ds : List UInt8} {vC vLo : Value} (h : PJ W w D s a c xs K) (hK : K.length ≤ 99)
    (a3 : Aft w w3 W.heap.size D (4 * K.length) s (crS (acS s) ⟨(ltr K.length).toArray⟩ F bp b2 vC vLo)) (u4 : Up w3 w4)
    (a5 : Aft w4 w5 W.heap.size D (4 * K.length + 2) (crS (acS s) ⟨(ltr K.length).toArray⟩ F bp b2 vC vLo) s5)
    (hs : ∃ vn vo vk ba bk, s5 = flS (acS (crS (acS s) ⟨(ltr K.length).toArray⟩ F bp b2 vC vLo)) F (wtF (fnew F) 0 ds vn vo vk ba bk (crS (acS s) ⟨(ltr K.length).toArray⟩ F bp b2 vC vLo).trn) ((crS (acS s) ⟨(ltr K.length).toArray⟩ F bp b2 vC vLo).trn + 1)) :
    DOk w5 W.heap.size D (4 * (K.length + 1)) s5 ∧ Up W w5 ∧ (∀ k, own D s5 k → W.heap.size ≤ k) ∧ KR w5 W.heap.size D s5 a c xs K ∧ (s5.dead = false ∧ s5.unt = 0 ∧ s5.room = 1073741824 ∧ s5.las = (fun _ => none) ∧ s5.of = [] ∧ s5.trn = K.length + 1 ∧ s5.acts = 2 * (K.length + 1) ∧ s5.n0 = 0) ∧ PF s5.chs s5.nf (K ++ [ds]) ∧ CW s5 := by
  obtain ⟨vn, vo, vk, ba, bk, rfl⟩ := hs
  obtain ⟨t1, t2, t3, t4, t5, t6, t7, t8⟩ := h.st
  have hnm : ltr K.length ∉ s.nf.map (·.1) := h.pf.names hK
  have e1 : drp s.nf (ltr K.length) = s.nf := drp_no hnm
  have e2 : gone s.nf (ltr K.length) = [] := gone_no hnm
  have hU3 := up_disk h.up h.lo a3.2.2
  have hL3 := lo_disk h.up h.lo a3.2.1
  have hU4 := hU3.trans u4
  have en : (crS (acS s) ⟨(ltr K.length).toArray⟩ F bp b2 vC vLo).nf = s.nf ++ [(ltr K.length, fnew F)] := by
    show drp s.nf (ltr K.length) ++ [(ltr K.length, fnew F)] = _
    rw [e1]
  have eo : (crS (acS s) ⟨(ltr K.length).toArray⟩ F bp b2 vC vLo).of = [] := by
    show s.of ++ gone s.nf (ltr K.length) = _
    rw [e2, t5]
    rfl
  have er := rpl_last a3.1 en (wtF (fnew F) 0 ds vn vo vk ba bk (crS (acS s) ⟨(ltr K.length).toArray⟩ F bp b2 vC vLo).trn)
  have hFn : ∀ f ∈ fls s, f.b ≠ F := fun f hf e => by
    have hp := (crS_perm (s := acS s) (nm := ⟨(ltr K.length).toArray⟩) (F := F) (bp := bp) (b2 := b2) (vC := vC) (vLo := vLo) h.ok.nd)
    have nd := a3.1.fnd
    rw [(hp.map (·.b)).nodup_iff, List.map_cons, List.nodup_cons] at nd
    exact nd.1 (List.mem_map.2 ⟨f, hf, e⟩)
  refine ⟨a5.1.more (by omega) (by omega), up_disk hU4 hL3 a5.2.2, lo_disk hU4 hL3 a5.2.1, ((h.kr.disk a3.2.2 a3.2.1).up u4).disk a5.2.2 a5.2.1, ⟨t1, ?_, t3, t4, eo, ?_, ?_, t8⟩, ?_, ?_⟩
  · show s.unt - 1 - 1 = 0
    omega
  · show s.trn + 1 = K.length + 1
    omega
  · show s.acts + 1 + 1 = 2 * (K.length + 1)
    omega
  · show PF (s.chs ++ [⟨0, ⟨(ltr K.length).toArray⟩, ⟨(ltr K.length).toArray⟩, F, bp, b2⟩]) (rpl (crS (acS s) ⟨(ltr K.length).toArray⟩ F bp b2 vC vLo).nf F _) (K ++ [ds])
    rw [er]
    refine h.pf.snoc rfl rfl ?_ ⟨_, rfl, rfl, rfl, ?_⟩ rfl rfl rfl
    · exact wr_nil ds
    · show ((s.trn : Nat) : Int) = _
      rw [t6]
  · have h1 : CW (crS (acS s) ⟨(ltr K.length).toArray⟩ F bp b2 vC vLo) := CW.cr (s := acS s) ⟨h.cw.cn, h.cw.now⟩ h.ok.nd (ltr_nm _ (by omega)) hFn
    exact CW.fl (s := acS (crS (acS s) ⟨(ltr K.length).toArray⟩ F bp b2 vC vLo)) ⟨h1.cn, h1.now⟩ rfl
/-- what a crash asks -/
theorem PJ.cf {W w : World} {D : Nat} {s : DD} {a : Option Addr} {c : Nat} {xs : List Value} {K : List (List UInt8)} (h : PJ W w D s a c xs K) : CF s 1048576 := by
  have hfl : fls s = s.nf.map (·.2) := by
    unfold fls
    rw [h.st.2.2.2.2.1, List.append_nil]
  have hn := h.pf.nl
  have hk := h.kl
  refine ⟨h.cw.cn.fit, h.cw.cn.mem, h.cw.cn.inj, fun f hf => ?_, ?_, ?_⟩
  · rw [hfl] at hf
    obtain ⟨p, hp, rfl⟩ := List.mem_map.1 hf
    obtain ⟨i, hi, rfl⟩ := List.getElem_of_mem hp
    obtain ⟨_, q2, _, ⟨l, hl, hp, hd, _⟩, _⟩ := h.pf.fl i (by omega)
    refine ⟨by rw [q2]; exact Nat.zero_le _, fun m hm => ?_⟩
    rw [hl] at hm
    obtain rfl := List.mem_singleton.1 hm
    rw [hp, hd]
    have := (h.sz _ (List.getElem_mem (show i < K.length by omega))).2
    omega
  · rw [hfl, List.length_map, hn]
    omega
  · rw [hfl, List.length_map, hn]
    omega
theorem PJ.pend {W w : World} {D : Nat} {s : DD} {a : Option Addr} {c : Nat} {xs : List Value} {K : List (List UInt8)} (h : PJ W w D s a c xs K) : s.chs.length + Go.Proofs.YtepakbghhnkcfaaDoor.lsd (fls s) = 2 * K.length := by
  have hfl : fls s = s.nf.map (·.2) := by
    unfold fls
    rw [h.st.2.2.2.2.1, List.append_nil]
  rw [hfl, h.pf.lsd, h.pf.cl]
  omega
/-- what is found -/
theorem PJ.found {W w : World} {D : Nat} {s : DD} {a : Option Addr} {c : Nat} {xs : List Value} {K : List (List UInt8)} (h : PJ W w D s a c xs K) {cs : List Int} {gs : LG} {ws : List WL} (hL : LF s cs gs ws) {fs : List GF} (hf : fs.map pr = srF (lfs cs 1 gs ws)) :
    fs.length = cz cs 0 K.length ∧ ∀ i (hi : i < fs.length) (hk : i < K.length), fs[i].nm = ⟨(ltr i).toArray⟩ ∧ fs[i].ds = K[i].take (cz cs (i + 1) K[i].length) := by
  have hfl : fls s = s.nf.map (·.2) := by
    unfold fls
    rw [h.st.2.2.2.2.1, List.append_nil]
  have h1 := hL.nm
  have h2 := hL.fl
  rw [h.pf.cl, h.st.2.2.2.1] at h1 h2
  rw [hfl] at h2
  have nb : (s.nf.map (·.2.b)).Nodup := by
    have := h.ok.fnd
    rw [hfl, List.map_map] at this
    exact this
  rw [h.pf.left h.kl nb (cz cs 0 K.length) (cz_le _ _ _) hL.nd h1 h2 hL.pm hL.so] at hf
  have hlen := congrArg List.length hf
  rw [List.length_map, List.length_map, List.length_range] at hlen
  refine ⟨hlen, fun i hi hk => ?_⟩
  have h3 := congrArg (fun l => l[i]?) hf
  simp only [List.getElem?_map, List.getElem?_eq_getElem hi, Option.map_some] at h3
  rw [List.getElem?_range (by omega)] at h3
  simp only [Option.map_some, Option.some.injEq, Prod.mk.injEq] at h3
  have hKi : K.getD i [] = K[i] := by
    rw [List.getD_eq_getElem?_getD, List.getElem?_eq_getElem hk]
    rfl
  rw [hKi] at h3
  refine ⟨?_, h3.2⟩
  rw [← h3.1]
end Go.Proofs.YtepakbghhnkcfaaDoor
