import Derived.Test.YtaibjeehjhlicaaGreatDoorQbq
namespace Go.Proofs.YtaibjeehjhlicaaGreatDoor
open Go.RowKit Go.Shelf TextNum ModNum
/-- each loose write has a number of its own -/
structure TN (s : DD) : Prop where
  lt : ∀ f ∈ fls s, ∀ l ∈ f.lo, l.tn < s.trn
  one : ∀ f ∈ fls s, ∀ g ∈ fls s, ∀ l ∈ f.lo, ∀ m ∈ g.lo, l.tn = m.tn → f.b = g.b ∧ l = m
/-- what the acts keep -/
structure IV (K : Nat) (s : DD) : Prop where
  cw : CW s
  tn : TN s
  ly : ∀ f ∈ fls s, lay f.lb f.lo = f.nb
  sz : ∀ f ∈ fls s, f.nb.length ≤ 2097152 ∧ f.lb.length ≤ 2097152 ∧ ∀ l ∈ f.lo, l.p + l.ds.length ≤ 2097152
  cnt : (fls s).length ≤ K
  n0 : s.n0 + s.chs.length ≤ K
theorem IV.mono {K K' : Nat} {s : DD} (h : IV K s) (k : K ≤ K') : IV K' s := ⟨h.cw, h.tn, h.ly, h.sz, Nat.le_trans h.cnt k, Nat.le_trans h.n0 k⟩
theorem IV.cf {K : Nat} {s : DD} (h : IV K s) (hK : K ≤ 100000) : CF s 2097152 :=
  ⟨h.cw.cn.fit, h.cw.cn.mem, h.cw.cn.inj, fun f hf => (h.sz f hf).2, by have := h.cnt; omega, by have := h.cnt; omega⟩
theorem IV.usd {K : Nat} {s : DD} (h : IV K s) : usd s.nf ≤ K * 2097152 := by
  have h1 := sum_leX (X := 2097152) (s.nf.map fun p => p.2.nb.length) (fun x hx => by
    obtain ⟨p, hp, rfl⟩ := List.mem_map.1 hx
    exact (h.sz p.2 (List.mem_append_left _ (List.mem_map_of_mem hp))).1)
  rw [List.length_map] at h1
  have h2 : s.nf.length ≤ K := by
    have := h.cnt
    unfold fls at this
    rw [List.length_append, List.length_map] at this
    omega
  exact Nat.le_trans h1 (Nat.mul_le_mul_right _ h2)
theorem IV.set {K : Nat} {s : DD} (h : IV K s) (a u : Nat) (fl : Int) (dd : Bool) : IV K { s with acts := a, unt := u, flt := fl, dead := dd } :=
  ⟨⟨h.cw.cn, h.cw.now⟩, ⟨h.tn.lt, h.tn.one⟩, h.ly, h.sz, h.cnt, h.n0⟩
/-- the same files, in another order -/
theorem IV.perm {K : Nat} {s s' : DD} (h : IV K s) (P : (fls s').Perm (fls s)) (ht : s'.trn = s.trn) (hc : CW s') (hn : s'.n0 + s'.chs.length ≤ s.n0 + s.chs.length + 1) : IV (K + 1) s' :=
  ⟨hc, ⟨fun f hf l hl => by rw [ht]; exact h.tn.lt f (P.mem_iff.1 hf) l hl, fun f hf g hg => h.tn.one f (P.mem_iff.1 hf) g (P.mem_iff.1 hg)⟩, fun f hf => h.ly f (P.mem_iff.1 hf), fun f hf => h.sz f (P.mem_iff.1 hf), by rw [P.length_eq]; exact Nat.le_succ_of_le h.cnt, Nat.le_trans hn (Nat.succ_le_succ h.n0)⟩
theorem IV.cr {K : Nat} {s : DD} (h : IV K s) (nd : (s.nf.map (·.1)).Nodup) {nm : ByteArray} {F bp b2 : Nat} {vC vLo : Value} (hn : isNm nm.data.toList = true) (hF : ∀ f ∈ fls s, f.b ≠ F) : IV (K + 1) (crS s nm F bp b2 vC vLo) := by
  have P := crS_perm (s := s) (nm := nm) (F := F) (bp := bp) (b2 := b2) (vC := vC) (vLo := vLo) nd
  have hm : ∀ f ∈ fls (crS s nm F bp b2 vC vLo), f = fnew F ∨ f ∈ fls s := fun f hf => by
    rcases List.mem_cons.1 (P.mem_iff.1 hf) with h1 | h1
    · exact .inl h1
    · exact .inr h1
  refine ⟨h.cw.cr nd hn hF, ⟨fun f hf l hl => ?_, fun f hf g hg l hl m hm' e => ?_⟩, fun f hf => ?_, fun f hf => ?_, ?_, ?_⟩
  · rcases hm f hf with rfl | h1
    · cases hl
    · exact h.tn.lt f h1 l hl
  · rcases hm f hf with rfl | h1
    · cases hl
    · rcases hm g hg with rfl | h2
      · cases hm'
      · exact h.tn.one f h1 g h2 l hl m hm' e
  · rcases hm f hf with rfl | h1
    · rfl
    · exact h.ly f h1
  · rcases hm f hf with rfl | h1
    · exact ⟨Nat.zero_le _, Nat.zero_le _, fun l hl => by cases hl⟩
    · exact h.sz f h1
  · rw [P.length_eq, List.length_cons]
    have := h.cnt
    omega
  · show s.n0 + (s.chs ++ [_]).length ≤ K + 1
    have := h.n0
    rw [List.length_append, List.length_singleton]
    omega
theorem IV.rm {K : Nat} {s : DD} (h : IV K s) (nd : (s.nf.map (·.1)).Nodup) {nm : ByteArray} {b2 : Nat} {vC vLo : Value} : IV (K + 1) (rmS s nm b2 vC vLo) :=
  h.perm (rmS_perm nd) rfl (h.cw.rm nd) (by show s.n0 + (s.chs ++ [_]).length ≤ _; rw [List.length_append, List.length_singleton]; omega)
theorem IV.rn {K : Nat} {s : DD} (h : IV K s) (nd : (s.nf.map (·.1)).Nodup) {nm tm : ByteArray} {f : FL} {b1 b2 : Nat} {vC vLo : Value} (hf : (nm.data.toList, f) ∈ s.nf) (ht : isNm tm.data.toList = true) : IV (K + 1) (rnS s nm tm f b1 b2 vC vLo) :=
  h.perm (rnS_perm nd (gone_of nd hf)) rfl (h.cw.rn nd (gone_of nd hf) hf ht) (by show s.n0 + (s.chs ++ [_]).length ≤ _; rw [List.length_append, List.length_singleton]; omega)
theorem flS_perm {s : DD} (h : ND s) {l : List UInt8} {f f' : FL} (hf : (l, f) ∈ s.nf) (t : Nat) : ∃ r, (fls s).Perm (f :: r) ∧ (fls (flS s f.b f' t)).Perm (f' :: r) ∧ ∀ g ∈ r, g.b ≠ f.b := by
  obtain ⟨xs, ys, e, _, r1, P, h3⟩ := h.split hf
  refine ⟨_, P, ?_, h3⟩
  show ((rpl s.nf f.b f').map (·.2) ++ s.of).Perm _
  rw [r1, List.map_append, List.map_cons, List.append_assoc, List.cons_append, List.append_assoc]
  exact List.perm_middle
/-- a file is another, its loose writes are old ones or the newest -/
theorem IV.fl {K : Nat} {s : DD} (h : IV K s) (n : ND s) {l : List UInt8} {f f' : FL} (hf : (l, f) ∈ s.nf) (hb : f'.b = f.b) (t : Nat) (ht : s.trn ≤ t) (hl : ∀ m ∈ f'.lo, m ∈ f.lo ∨ (m.tn = (s.trn : Int) ∧ s.trn < t)) (h1 : ∀ m ∈ f'.lo, ∀ k ∈ f'.lo, m.tn = k.tn → m = k) (hy : lay f'.lb f'.lo = f'.nb) (hs : f'.nb.length ≤ 2097152 ∧ f'.lb.length ≤ 2097152 ∧ ∀ l ∈ f'.lo, l.p + l.ds.length ≤ 2097152) : IV K (flS s f.b f' t) := by
  obtain ⟨r, P, Q, hr⟩ := flS_perm n hf (f' := f') t
  have hm : ∀ g ∈ fls (flS s f.b f' t), g = f' ∨ (g ∈ fls s ∧ g.b ≠ f.b) := fun g hg => by
    rcases List.mem_cons.1 (Q.mem_iff.1 hg) with e | e
    · exact .inl e
    · exact .inr ⟨P.mem_iff.2 (List.mem_cons_of_mem _ e), hr g e⟩
  have hfm : f ∈ fls s := P.mem_iff.2 List.mem_cons_self
  refine ⟨h.cw.fl hb, ⟨fun g hg m hm' => ?_, fun g hg k hk m hm' m2 hm2 e => ?_⟩, fun g hg => ?_, fun g hg => ?_, ?_, ?_⟩
  · show m.tn < (t : Int)
    rcases hm g hg with rfl | ⟨q, _⟩
    · rcases hl m hm' with q | ⟨q, q2⟩
      · have := h.tn.lt f hfm m q; omega
      · omega
    · have := h.tn.lt g q m hm'; omega
  · rcases hm g hg with rfl | ⟨q, qb⟩
    · rcases hm k hk with rfl | ⟨q2, q2b⟩
      · exact ⟨rfl, h1 m hm' m2 hm2 e⟩
      · rcases hl m hm' with q3 | ⟨q3, _⟩
        · exact absurd (h.tn.one f hfm k q2 m q3 m2 hm2 e).1.symm q2b
        · have := h.tn.lt k q2 m2 hm2; omega
    · rcases hm k hk with rfl | ⟨q2, q2b⟩
      · rcases hl m2 hm2 with q3 | ⟨q3, _⟩
        · exact absurd (h.tn.one g q f hfm m hm' m2 q3 e).1 qb
        · have := h.tn.lt g q m hm'; omega
      · exact h.tn.one g q k q2 m hm' m2 hm2 e
  · rcases hm g hg with rfl | ⟨q, _⟩
    · exact hy
    · exact h.ly g q
  · rcases hm g hg with rfl | ⟨q, _⟩
    · exact hs
    · exact h.sz g q
  · have := h.cnt
    rw [Q.length_eq]
    rwa [P.length_eq] at this
  · exact h.n0
theorem lay_snoc (lb : List UInt8) (lo : List LW) (l : LW) : lay lb (lo ++ [l]) = wr (lay lb lo) l.p l.ds := by
  unfold lay
  rw [List.foldl_append]
  rfl
theorem IV.wt {K : Nat} {s : DD} (h : IV K s) (n : ND s) {l : List UInt8} {f : FL} (hf : (l, f) ∈ s.nf) {p : Nat} {ds : List UInt8} (hp : p ≤ 1048576) (hd : ds.length ≤ 1048576) (vn vo vk : Value) (ba bk : Nat) : IV K (flS s f.b (wtF f p ds vn vo vk ba bk s.trn) (s.trn + 1)) := by
  have hfm : f ∈ fls s := List.mem_append_left _ (List.mem_map.2 ⟨_, hf, rfl⟩)
  obtain ⟨z1, z2, z3⟩ := h.sz f hfm
  refine h.fl n hf (f' := wtF f p ds vn vo vk ba bk s.trn) rfl (s.trn + 1) (Nat.le_succ _) (fun m hm => ?_) (fun m hm k hk e => ?_) ?_ ⟨show (wr f.nb p ds).length ≤ 2097152 from wr_le z1 (by omega), z2, fun l hl => ?_⟩
  · rcases List.mem_append.1 hm with q | q
    · exact .inl q
    · obtain rfl := List.mem_singleton.1 q
      exact .inr ⟨rfl, by omega⟩
  · rcases List.mem_append.1 hm with q | q
    · rcases List.mem_append.1 hk with q2 | q2
      · exact (h.tn.one f hfm f hfm m q k q2 e).2
      · obtain rfl := List.mem_singleton.1 q2
        have := h.tn.lt f hfm m q
        have e : m.tn = (s.trn : Int) := e
        omega
    · obtain rfl := List.mem_singleton.1 q
      rcases List.mem_append.1 hk with q2 | q2
      · have := h.tn.lt f hfm k q2
        have e : (s.trn : Int) = k.tn := e
        omega
      · obtain rfl := List.mem_singleton.1 q2
        rfl
  · show lay f.lb (f.lo ++ [_]) = wr f.nb p ds
    rw [lay_snoc, h.ly f hfm]
  · rcases List.mem_append.1 hl with q | q
    · exact z3 l q
    · obtain rfl := List.mem_singleton.1 q
      show p + ds.length ≤ 2097152
      omega
/-- a synced file -/
abbrev syF (f : FL) (v : Value) : FL := { f with vl := v, lb := lay f.lb f.lo, vo := .slice none 0 0, lo := [] }
def syS (s : DD) (f : FL) (v : Value) : DD := flS s f.b (syF f v) s.trn
theorem IV.sy {K : Nat} {s : DD} (h : IV K s) (n : ND s) {l : List UInt8} {f : FL} (hf : (l, f) ∈ s.nf) (v : Value) : IV K (syS s f v) := by
  have hfm : f ∈ fls s := List.mem_append_left _ (List.mem_map.2 ⟨_, hf, rfl⟩)
  obtain ⟨z1, z2, z3⟩ := h.sz f hfm
  have hl := h.ly f hfm
  refine h.fl n hf (f' := syF f v) rfl s.trn (Nat.le_refl _) (fun m hm => by cases hm) (fun m hm => by cases hm) hl ⟨z1, ?_, fun l hl => by cases hl⟩
  show (lay f.lb f.lo).length ≤ 2097152
  rw [hl]
  exact z1
/-- the names last -/
def snS (s : DD) (nL : Nat) (dl : DataW Unit) : DD := { s with nL := nL, dl := dl, n0 := s.n0 + s.chs.length, las := nrun s.chs s.las, vC := .slice none 0 0, vLo := .slice none 0 0, chs := [], of := [] }
theorem nmOf_some {nf : List (List UInt8 × FL)} {l : List UInt8} {b : Nat} (h : nmOf nf l = some b) : ∃ p ∈ nf, p.1 = l ∧ p.2.b = b := by
  unfold nmOf at h
  cases e : nf.find? fun p => p.1 == l with
  | none => rw [e] at h; cases h
  | some p =>
    rw [e] at h
    refine ⟨p, List.mem_of_find?_eq_some e, by simpa using List.find?_some e, by simpa using h⟩
theorem nd_inj {nf : List (List UInt8 × FL)} (h : (nf.map fun p => p.2.b).Nodup) {p q : List UInt8 × FL} (hp : p ∈ nf) (hq : q ∈ nf) (e : p.2.b = q.2.b) : p = q := by
  induction nf with
  | nil => cases hp
  | cons x r ih =>
    rw [List.map_cons, List.nodup_cons] at h
    rcases List.mem_cons.1 hp with h1 | h1
    · rcases List.mem_cons.1 hq with h2 | h2
      · exact h1.trans h2.symm
      · exact absurd (show x.2.b ∈ r.map (fun p => p.2.b) from List.mem_map.2 ⟨q, h2, by rw [← h1]; exact e.symm⟩) h.1
    · rcases List.mem_cons.1 hq with h2 | h2
      · exact absurd (show x.2.b ∈ r.map (fun p => p.2.b) from List.mem_map.2 ⟨p, h1, by rw [← h2]; exact e⟩) h.1
      · exact ih h.2 h1 h2
theorem ND.nfb {s : DD} (h : ND s) : (s.nf.map fun p => p.2.b).Nodup := by
  have h2 := h.2
  unfold fls at h2
  rw [List.map_append, List.nodup_append, List.map_map] at h2
  exact h2.1
theorem IV.sn {K : Nat} {s : DD} (h : IV K s) (hnm : ∀ p ∈ s.nf, isNm p.1 = true) (nL : Nat) (dl : DataW Unit) : IV K (snS s nL dl) := by
  have hsub : ∀ f ∈ fls (snS s nL dl), f ∈ fls s := fun f hf => by
    unfold fls snS at hf
    rw [List.append_nil] at hf
    exact List.mem_append_left _ hf
  refine ⟨⟨⟨NFit.nil _, fun k l b e => ?_, fun k l l' b e e' => ?_⟩, ?_⟩, ⟨fun f hf => h.tn.lt f (hsub f hf), fun f hf g hg => h.tn.one f (hsub f hf) g (hsub g hg)⟩, fun f hf => h.ly f (hsub f hf), fun f hf => h.sz f (hsub f hf), ?_, h.n0⟩
  · have e : nrun (([] : List NA).take k) (nrun s.chs s.las) l = some b := e
    rw [List.take_nil] at e
    have e : nrun s.chs s.las l = some b := e
    rw [h.cw.now] at e
    obtain ⟨p, hp, e1, e2⟩ := nmOf_some e
    refine ⟨⟨p.2, ?_, e2⟩, by rw [← e1]; exact hnm p hp⟩
    show p.2 ∈ s.nf.map (fun p : List UInt8 × FL => p.2) ++ []
    rw [List.append_nil]
    exact List.mem_map_of_mem hp
  · have e : nrun (([] : List NA).take k) (nrun s.chs s.las) l = some b := e
    have e' : nrun (([] : List NA).take k) (nrun s.chs s.las) l' = some b := e'
    rw [List.take_nil] at e e'
    exact h.cw.cn.injAll e e'
  · show nrun [] (nrun s.chs s.las) = nmOf s.nf
    exact h.cw.now
  · show (s.nf.map (fun p : List UInt8 × FL => p.2) ++ []).length ≤ K
    have := h.cnt
    unfold fls at this
    rw [List.length_append] at this
    rw [List.append_nil]
    omega
theorem nrun_ab {φ : Nat → Nat} : ∀ {c1 c2 : List NA} {m1 m2 : NM}, c1.map (abc φ) = c2.map (abc id) → (∀ l, (m1 l).map φ = m2 l) → ∀ l, (nrun c1 m1 l).map φ = nrun c2 m2 l
  | [], [], _, _, _, h => h
  | [], _ :: _, _, _, e, _ => by cases e
  | _ :: _, [], _, _, e, _ => by cases e
  | c :: r, d :: t, m1, m2, e, h => by
    injection e with e1 e2
    refine nrun_ab (c1 := r) (c2 := t) (m1 := nac c m1) (m2 := nac d m2) e2 (fun l => ?_)
    unfold abc at e1
    injection e1 with k1 e1
    injection e1 with k2 e1
    injection e1 with k3 k4
    unfold nac
    rw [← k1, ← k2, ← k3]
    by_cases h0 : c.kd = 0
    · rw [if_pos h0, if_pos h0]
      rw [if_pos h0, if_pos (k1 ▸ h0)] at k4
      unfold nput
      split
      · rw [Option.map_some, k4]; rfl
      · exact h l
    · rw [if_neg h0, if_neg h0]
      by_cases h1 : c.kd = 1
      · rw [if_pos h1, if_pos h1]
        unfold ndel
        split
        · rfl
        · exact h l
      · rw [if_neg h1, if_neg h1, ← h c.s.data.toList]
        cases q : m1 c.s.data.toList with
        | none => exact h l
        | some b =>
          show (nput (ndel m1 c.s.data.toList) c.t.data.toList b l).map φ = nput (ndel m2 c.s.data.toList) c.t.data.toList (φ b) l
          unfold nput ndel
          split
          · rfl
          · split
            · rfl
            · exact h l
theorem Sm.sn {φ : Nat → Nat} {s1 s2 : DD} (h : Sm φ s1 s2) {n1 n2 : Nat} {d1 d2 : DataW Unit} : Sm φ (snS s1 n1 d1) (snS s2 n2 d2) :=
  ⟨h.room, rfl, h.nf, rfl, nrun_ab h.chs h.las, h.trn⟩
end Go.Proofs.YtaibjeehjhlicaaGreatDoor
namespace Go.Proofs.YtaibjeehjhlicaaGreatDoor
open Go.RowKit Go.Shelf TextNum ModNum
abbrev IT : Type := List UInt8 × Nat × List UInt8 × Int
def itm (gs : LG) : List IT := gs.flatMap fun p => p.2.lo.map fun l => (p.1, abl l)
def itw (gs : LG) (x : WL) : IT := ((gs[x.i]?.map (·.1)).getD [], abl x.l)
theorem itw_get {gs : LG} {x : WL} (hi : x.i < gs.length) : itw gs x = (gs[x.i].1, abl x.l) := by
  unfold itw
  rw [List.getElem?_eq_getElem hi]
  rfl
theorem wls_itm (gs : LG) : (wls gs).map (itw gs) = itm gs := by
  have e : gs = gs.zipIdx.map Prod.fst := (List.zipIdx_map_fst 0 gs).symm
  have h1 : itm gs = gs.zipIdx.flatMap fun p => p.1.2.lo.map fun l => (p.1.1, abl l) := by
    unfold itm
    conv => lhs; rw [e]
    rw [List.flatMap_map]
  rw [h1]
  unfold wls
  rw [List.map_flatMap, List.flatMap_def, List.flatMap_def]
  congr 1
  refine List.map_congr_left (fun p hp => ?_)
  rw [List.map_map]
  refine List.map_congr_left (fun l _ => ?_)
  have h2 := List.mem_zipIdx_iff_getElem?.1 hp
  show itw gs ⟨p.2, l⟩ = _
  unfold itw
  show ((gs[p.2]?.map (·.1)).getD [], abl l) = _
  rw [h2]
  rfl
def datN (cs : List Int) (l : List UInt8) (k0 : Nat) (lb : List UInt8) (xs : List IT) : List UInt8 := (xs.zipIdx k0).foldl (fun acc x => if x.1.1 = l then wr acc x.1.2.1 (x.1.2.2.1.take (cz cs x.2 x.1.2.2.1.length)) else acc) lb
theorem nd_get {α : Type} {xs : List α} (h : xs.Nodup) {i j : Nat} (hi : i < xs.length) (hj : j < xs.length) (e : xs[i] = xs[j]) : i = j := by
  have p := List.pairwise_iff_getElem.1 h
  rcases Nat.lt_trichotomy i j with h1 | h1 | h1
  · exact absurd e (p i j hi hj h1)
  · exact h1
  · exact absurd e.symm (p j i hj hi h1)
theorem dat_datN {gs : LG} (nd : (gs.map Prod.fst).Nodup) (cs : List Int) {i : Nat} (hi : i < gs.length) : ∀ (ws : List WL) (k0 : Nat) (lb : List UInt8), (∀ x ∈ ws, x.i < gs.length) → dat cs k0 i lb ws = datN cs gs[i].1 k0 lb (ws.map (itw gs))
  | [], _, _, _ => rfl
  | x :: r, k0, lb, hw => by
    have hx := hw x List.mem_cons_self
    have ih := fun lb' => dat_datN nd cs hi r (k0 + 1) lb' (fun y hy => hw y (List.mem_cons_of_mem _ hy))
    have hc : (itw gs x).1 = gs[i].1 ↔ x.i = i := by
      rw [itw_get hx]
      constructor
      · intro e
        have h1 : x.i < (gs.map Prod.fst).length := by rw [List.length_map]; exact hx
        have h2 : i < (gs.map Prod.fst).length := by rw [List.length_map]; exact hi
        exact nd_get nd h1 h2 (by rw [List.getElem_map, List.getElem_map]; exact e)
      · rintro rfl
        rfl
    have hl : itw gs x = (gs[x.i].1, abl x.l) := itw_get hx
    unfold dat datN at ih ⊢
    rw [List.map_cons, List.zipIdx_cons, List.zipIdx_cons, List.foldl_cons, List.foldl_cons]
    show List.foldl _ (if x.i = i then wr lb x.l.p (x.l.ds.take (cz cs k0 x.l.ds.length)) else lb) _ = List.foldl _ (if (itw gs x).1 = gs[i].1 then wr lb (itw gs x).2.1 ((itw gs x).2.2.1.take (cz cs k0 (itw gs x).2.2.1.length)) else lb) _
    by_cases q : x.i = i
    · rw [if_pos q, if_pos (hc.2 q), hl]
      exact ih _
    · rw [if_neg q, if_neg (fun e => q (hc.1 e))]
      exact ih _
theorem lfs_N {gs : LG} (nd : (gs.map Prod.fst).Nodup) (cs : List Int) (k0 : Nat) {ws : List WL} (hw : ∀ x ∈ ws, x.i < gs.length) : lfs cs k0 gs ws = gs.map fun p => (p.1, datN cs p.1 k0 p.2.lb (ws.map (itw gs))) := by
  have e : gs = gs.zipIdx.map Prod.fst := (List.zipIdx_map_fst 0 gs).symm
  have h1 : (gs.map fun p => (p.1, datN cs p.1 k0 p.2.lb (ws.map (itw gs)))) = gs.zipIdx.map fun p => (p.1.1, datN cs p.1.1 k0 p.1.2.lb (ws.map (itw gs))) := by
    conv => lhs; rw [e]
    rw [List.map_map, ← e]
    rfl
  rw [h1]
  unfold lfs
  refine List.map_congr_left (fun p hp => ?_)
  have h2 := List.mem_zipIdx_iff_getElem?.1 hp
  obtain ⟨hi, h3⟩ := List.getElem?_eq_some_iff.1 h2
  rw [dat_datN nd cs hi ws k0 p.1.2.lb hw, h3]
def gfl (gs : LG) : List (List UInt8 × List UInt8 × List (Nat × List UInt8 × Int)) := gs.map fun p => (p.1, p.2.lb, p.2.lo.map abl)
theorem gfl_fst (gs : LG) : (gfl gs).map Prod.fst = gs.map Prod.fst := by
  unfold gfl
  rw [List.map_map]
  rfl
theorem gfl_itm (gs : LG) : itm gs = (gfl gs).flatMap fun q => q.2.2.map fun l => (q.1, l) := by
  unfold itm gfl
  rw [List.flatMap_map]
  congr 1
  funext p
  rw [List.map_map]
  rfl
theorem nd_fst {α β : Type} {l : List (α × β)} (h : (l.map Prod.fst).Nodup) : l.Nodup := nd_of_map Prod.fst l h
theorem LF.idx {s : DD} {cs : List Int} {gs : LG} {ws : List WL} (h : LF s cs gs ws) : ∀ x ∈ ws, x.i < gs.length := fun _ hx => (wls_mem (h.pm.mem_iff.1 hx)).1
theorem mem_itm {gs : LG} {a : IT} (h : a ∈ itm gs) : ∃ p ∈ gs, ∃ l ∈ p.2.lo, a = (p.1, abl l) := by
  obtain ⟨p, hp, h2⟩ := List.mem_flatMap.1 h
  obtain ⟨l, hl, e⟩ := List.mem_map.1 h2
  exact ⟨p, hp, l, hl, e.symm⟩
theorem ND.inj {s : DD} (n : ND s) {f g : FL} (hf : f ∈ fls s) (hg : g ∈ fls s) (e : f.b = g.b) : f = g := by
  obtain ⟨i, hi, e1⟩ := List.mem_iff_getElem.1 hf
  obtain ⟨j, hj, e2⟩ := List.mem_iff_getElem.1 hg
  have : i = j := nd_get n.2 (by rw [List.length_map]; exact hi) (by rw [List.length_map]; exact hj) (by rw [List.getElem_map, List.getElem_map, e1, e2, e])
  subst this
  exact e1.symm.trans e2
/-- of disks that are the same but for their memory a crash leaves the same -/
theorem LF.same {φ : Nat → Nat} {s1 s2 : DD} {cs : List Int} {gs gs' : LG} {ws ws' : List WL} (hS : Sm φ s1 s2) (c1 : CW s1) (t1 : TN s1) (n2 : ND s2) (h1 : LF s1 cs gs ws) (h2 : LF s2 cs gs' ws') : srF (lfs cs 1 gs ws) = srF (lfs cs 1 gs' ws') := by
  have ek : cz cs 0 s2.chs.length = cz cs 0 s1.chs.length := by rw [hS.clen]
  have q1 := h1.nm
  have q2 := h2.nm
  have r1 := h1.fl
  have r2 := h2.fl
  rw [ek] at q2 r2
  generalize cz cs 0 s1.chs.length = k at q1 q2 r1 r2
  have hr : ∀ l, (nrun (s1.chs.take k) s1.las l).map φ = nrun (s2.chs.take k) s2.las l := nrun_ab (by rw [List.map_take, List.map_take, hS.chs]) hS.las
  have hnm : ∀ l, l ∈ gs.map Prod.fst ↔ l ∈ gs'.map Prod.fst := fun l => by
    rw [q1, q2, ← hr l, Option.isSome_map]
  have hfw : ∀ p ∈ gs, ∀ p' ∈ gs', p.1 = p'.1 → abf φ p.2 = abf id p'.2 := fun p hp p' hp' e => by
    obtain ⟨a1, a2⟩ := r1 p hp
    obtain ⟨b1, b2⟩ := r2 p' hp'
    rw [← e, ← hr, a2] at b2
    injection b2 with b2
    have h3 : abf φ p.2 ∈ (fls s2).map (abf id) := by rw [← hS.fls]; exact List.mem_map_of_mem a1
    obtain ⟨f2, hf2, e2⟩ := List.mem_map.1 h3
    have h4 : f2.b = φ p.2.b := congrArg AF.i e2
    rw [n2.inj hf2 b1 (h4.trans b2)] at e2
    exact e2.symm
  have hmem : ∀ q, q ∈ gfl gs ↔ q ∈ gfl gs' := fun q => by
    unfold gfl
    simp only [List.mem_map]
    constructor
    · rintro ⟨p, hp, rfl⟩
      obtain ⟨p', hp', e⟩ := List.mem_map.1 ((hnm p.1).1 (List.mem_map_of_mem hp))
      have e2 := hfw p hp p' hp' e.symm
      exact ⟨p', hp', by rw [e, ← show p.2.lb = p'.2.lb from congrArg AF.lb e2, ← show p.2.lo.map abl = p'.2.lo.map abl from congrArg AF.lo e2]⟩
    · rintro ⟨p', hp', rfl⟩
      obtain ⟨p, hp, e⟩ := List.mem_map.1 ((hnm p'.1).2 (List.mem_map_of_mem hp'))
      have e2 := hfw p hp p' hp' e
      exact ⟨p, hp, by rw [e, ← show p.2.lb = p'.2.lb from congrArg AF.lb e2, ← show p.2.lo.map abl = p'.2.lo.map abl from congrArg AF.lo e2]⟩
  have P : (gfl gs).Perm (gfl gs') := (List.perm_ext_iff_of_nodup (nd_fst (by rw [gfl_fst]; exact h1.nd)) (nd_fst (by rw [gfl_fst]; exact h2.nd))).2 hmem
  have PI : (ws.map (itw gs)).Perm (ws'.map (itw gs')) := by
    refine (h1.pm.map _).trans ?_
    refine List.Perm.trans ?_ (h2.pm.map _).symm
    rw [wls_itm, wls_itm, gfl_itm, gfl_itm]
    exact P.flatMap_right _
  have hm1 : ∀ a ∈ ws.map (itw gs), a ∈ itm gs := fun a ha => by
    rw [← wls_itm]
    exact (h1.pm.map _).mem_iff.1 ha
  have E : ws.map (itw gs) = ws'.map (itw gs') := by
    refine List.Perm.eq_of_pairwise (le := fun a b : IT => a.2.2.2 ≤ b.2.2.2) (fun a b ha hb hab hba => ?_) ?_ ?_ PI
    · obtain ⟨p, hp, l, hl, rfl⟩ := mem_itm (hm1 a ha)
      obtain ⟨q, hq, m, hm, rfl⟩ := mem_itm (hm1 b (PI.mem_iff.2 hb))
      have e : l.tn = m.tn := Int.le_antisymm hab hba
      obtain ⟨e1, rfl⟩ := t1.one p.2 (r1 p hp).1 q.2 (r1 q hq).1 l hl m hm e
      have e2 : p.1 = q.1 := c1.cn.inj k p.1 q.1 p.2.b (r1 p hp).2 (e1 ▸ (r1 q hq).2)
      rw [e2]
    · exact List.pairwise_map.2 h1.so
    · exact List.pairwise_map.2 h2.so
  have hL : ∀ (gs : LG) (xs : List IT), (gs.map fun p => (p.1, datN cs p.1 1 p.2.lb xs)) = (gfl gs).map fun q => (q.1, datN cs q.1 1 q.2.1 xs) := fun gs xs => by
    unfold gfl
    rw [List.map_map]
    rfl
  have PL : (lfs cs 1 gs ws).Perm (lfs cs 1 gs' ws') := by
    rw [lfs_N h1.nd cs 1 h1.idx, lfs_N h2.nd cs 1 h2.idx, E, hL, hL]
    exact P.map _
  have n1 : ((lfs cs 1 gs ws).map Prod.fst).Nodup := by rw [lfs_fst]; exact h1.nd
  have n3 : ((lfs cs 1 gs' ws').map Prod.fst).Nodup := by rw [lfs_fst]; exact h2.nd
  refine srF_eq n1 ((srF_perm n3).trans PL.symm) ?_
  rw [srF_fst]
  exact srt_pw _
/-- a file with nothing loose is left as it lasts -/
theorem LF.quiet {s : DD} {cs : List Int} {gs : LG} {ws : List WL} (h : LF s cs gs ws) (n : ND s) {l : List UInt8} {f : FL} (hf : f ∈ fls s) (hn : nrun (s.chs.take (cz cs 0 s.chs.length)) s.las l = some f.b) (hl : f.lo = []) : (l, f.lb) ∈ lfs cs 1 gs ws := by
  have h1 : l ∈ gs.map Prod.fst := (h.nm l).2 (by rw [hn]; rfl)
  obtain ⟨p, hp, rfl⟩ := List.mem_map.1 h1
  obtain ⟨a1, a2⟩ := h.fl p hp
  rw [hn] at a2
  injection a2 with a2
  have e := n.inj hf a1 a2
  obtain ⟨i, hi, e2⟩ := List.mem_iff_getElem.1 hp
  have e3 : dat cs 1 i gs[i].2.lb ws = gs[i].2.lb := dat_none (fun x hx e4 => by
    obtain ⟨_, hx2⟩ := wls_mem (h.pm.mem_iff.1 hx)
    subst e4
    rw [e2, ← e, hl] at hx2
    cases hx2)
  refine List.mem_iff_getElem?.2 ⟨i, ?_⟩
  rw [lfs_get hi, e3, e2, ← e]
/-- a disk on which nothing is loose: each crash leaves what there is -/
theorem LF.still {s : DD} {cs : List Int} {gs : LG} {ws : List WL} (h : LF s cs gs ws) (n : ND s) (hc : s.chs = []) (hla : s.las = nmOf s.nf) (hs : ∀ p ∈ s.nf, p.2.lo = [] ∧ p.2.lb = p.2.nb) : srF (lfs cs 1 gs ws) = fsOf s.nf := by
  have hrun : ∀ l, nrun (s.chs.take (cz cs 0 s.chs.length)) s.las l = nmOf s.nf l := fun l => by
    rw [hc, List.take_nil, hla]
    rfl
  have n3 : ((lfs cs 1 gs ws).map Prod.fst).Nodup := by rw [lfs_fst]; exact h.nd
  have n4 : ((s.nf.map fun p => (p.1, p.2.nb)).map Prod.fst).Nodup := by
    rw [List.map_map]
    exact n.1
  have hsub : ∀ q ∈ s.nf.map (fun p => (p.1, p.2.nb)), q ∈ lfs cs 1 gs ws := fun q hq => by
    obtain ⟨p, hp, rfl⟩ := List.mem_map.1 hq
    have h5 := h.quiet n (l := p.1) (f := p.2) (List.mem_append_left _ (List.mem_map_of_mem hp)) (by rw [hrun]; exact nmOf_mem n.1 hp) (hs p hp).1
    rw [(hs p hp).2] at h5
    exact h5
  have hsup : ∀ q ∈ lfs cs 1 gs ws, q ∈ s.nf.map (fun p => (p.1, p.2.nb)) := fun q hq => by
    have h5 : q.1 ∈ gs.map Prod.fst := by rw [← lfs_fst cs 1 gs ws]; exact List.mem_map_of_mem hq
    have h6 := (h.nm q.1).1 h5
    rw [hrun] at h6
    obtain ⟨b, hb⟩ := Option.isSome_iff_exists.1 h6
    obtain ⟨p, hp, e1, _⟩ := nmOf_some hb
    have h7 := hsub (p.1, p.2.nb) (List.mem_map.2 ⟨p, hp, rfl⟩)
    have e2 : q = (p.1, p.2.nb) := by
      obtain ⟨q1, q2⟩ := q
      have e1 : p.1 = q1 := e1
      subst e1
      rw [nd_val n3 hq h7]
    rw [e2]
    exact List.mem_map.2 ⟨p, hp, rfl⟩
  have P : (lfs cs 1 gs ws).Perm (s.nf.map fun p => (p.1, p.2.nb)) := (List.perm_ext_iff_of_nodup (nd_fst n3) (nd_fst n4)).2 (fun q => ⟨hsup q, hsub q⟩)
  rw [fsOf_srF]
  refine srF_eq n3 ((srF_perm n4).trans P.symm) ?_
  rw [srF_fst]
  exact srt_pw _
end Go.Proofs.YtaibjeehjhlicaaGreatDoor
