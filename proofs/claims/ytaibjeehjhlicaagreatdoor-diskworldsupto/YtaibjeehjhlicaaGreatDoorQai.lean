import Derived.Test.YtaibjeehjhlicaaGreatDoorQah
namespace Go.Proofs.YtaibjeehjhlicaaGreatDoor
open Go.RowKit Go.Shelf TextNum ModNum
/-- what a block's cells are -/
def tagOf (w : World) (k : Nat) : Option TypeId := match w.heap[k]? with
  | some (.cells _ e _) => some e
  | _ => none
theorem At.tg {w : World} {b : Nat} {t : TypeId} {cs : List Value} (h : At w b t cs) : tagOf w b = some t := by
  unfold At at h
  unfold tagOf
  rw [h]
theorem own_tg {w : World} {B n m k : Nat} {e : TypeId} {v : Value} {xs : List Value} (h : w.ownsRow B e m v n xs) (hk : v.ownBlock = some k) : tagOf w k = some e := by
  rcases h.2 with ⟨rfl, _⟩ | ⟨g, cap, cur, rfl, _, hg, _⟩
  · cases hk
  · obtain rfl : g = k := Option.some.inj hk
    unfold tagOf
    rw [hg]
theorem map_tg {w : World} {M n : Nat} {dm : DataW Unit} (h : OM w M n dm) : tagOf w M = none := by
  obtain ⟨es, cl, hb, _⟩ := h
  unfold tagOf
  rw [hb]
def ftags : List TypeId := [95, 5, 144, 3, 41]
theorem FOk.tg {w : World} {B : Nat} {f : FL} (h : FOk w B f) : ∀ k ∈ fbs f, ∃ e ∈ ftags, tagOf w k = some e := by
  intro k hk
  rcases List.mem_cons.1 hk with rfl | hk
  · exact ⟨_, by simp [ftags], h.file.tg⟩
  rcases List.mem_append.1 hk with hk | hk
  · exact ⟨_, by simp [ftags], own_tg h.now (mem_vbs.1 hk)⟩
  rcases List.mem_append.1 hk with hk | hk
  · exact ⟨_, by simp [ftags], own_tg h.last (mem_vbs.1 hk)⟩
  rcases List.mem_append.1 hk with hk | hk
  · exact ⟨_, by simp [ftags], own_tg h.loose (mem_vbs.1 hk)⟩
  obtain ⟨l, hl, hk⟩ := List.mem_flatMap.1 hk
  have he := h.each l hl
  rcases List.mem_cons.1 hk with rfl | hk
  · exact ⟨_, by simp [ftags], he.pa.tg⟩
  rcases List.mem_cons.1 hk with rfl | hk
  · exact ⟨_, by simp [ftags], he.pk.tg⟩
  exact ⟨_, by simp [ftags], own_tg he.own (mem_vbs.1 hk)⟩
theorem NAOk.tg {w : World} {c : NA} (h : NAOk w c) : ∀ k ∈ nbs c, ∃ e ∈ [88, 9], tagOf w k = some e := by
  intro k hk
  unfold nbs at hk
  by_cases e : c.kd = 1
  · rw [if_pos e] at hk
    obtain rfl := List.mem_singleton.1 hk
    exact ⟨_, by simp, h.b2.tg⟩
  · rw [if_neg e] at hk
    rcases List.mem_cons.1 hk with rfl | hk
    · refine ⟨_, ?_, (h.b1 e).tg⟩
      by_cases e0 : c.kd = 0 <;> simp [e0]
    · obtain rfl := List.mem_singleton.1 hk
      exact ⟨_, by simp, h.b2.tg⟩
/-- files' blocks are none of the disk's own -/
theorem FOk.out {w : World} {B : Nat} {f : FL} (h : FOk w B f) {k : Nat} (hk : k ∈ fbs f) {t : Option TypeId} (ht : tagOf w k = t) (hn : ∀ e ∈ ftags, t ≠ some e) : False := by
  obtain ⟨e, he, h1⟩ := h.tg k hk
  exact hn e he (ht.symm.trans h1)
theorem NAOk.out {w : World} {c : NA} (h : NAOk w c) {k : Nat} (hk : k ∈ nbs c) {t : Option TypeId} (ht : tagOf w k = t) (hn : ∀ e ∈ [88, 9], t ≠ some e) : False := by
  obtain ⟨e, he, h1⟩ := h.tg k hk
  exact hn e he (ht.symm.trans h1)
/-- a names' act's blocks: the disk's cells, the map of names, the two rows -/
abbrev Sn (D : Nat) (s : DD) (k : Nat) : Prop := k = D ∨ k = s.M ∨ s.vC.ownBlock = some k ∨ s.vLo.ownBlock = some k
theorem Sn.own {D : Nat} {s : DD} {k : Nat} (h : Sn D s k) : own D s k := by
  rcases h with h | h | h | h
  · exact .inl h
  · exact .inr (.inl h)
  · exact .inr (.inr (.inr (.inl h)))
  · exact .inr (.inr (.inr (.inr (.inl h))))
theorem DOk.fout {w : World} {B D T : Nat} {s : DD} (h : DOk w B D T s) {f : FL} (hf : FOk w B f) {k : Nat} (hk : k ∈ fbs f) (hS : Sn D s k) : False := by
  rcases hS with rfl | rfl | hS | hS
  · exact hf.out hk h.disk.tg (by decide)
  · exact hf.out hk (map_tg h.mnow) (by decide)
  · exact hf.out hk (own_tg h.rowC hS) (by decide)
  · exact hf.out hk (own_tg h.rowL hS) (by decide)
theorem DOk.nout {w : World} {B D T : Nat} {s : DD} (h : DOk w B D T s) {c : NA} (hc : c ∈ s.chs) {k : Nat} (hk : k ∈ nbs c) (hS : Sn D s k) : False := by
  rcases hS with rfl | rfl | hS | hS
  · exact (h.chk c hc).out hk h.disk.tg (by decide)
  · exact (h.chk c hc).out hk (map_tg h.mnow) (by decide)
  · exact (h.chk c hc).out hk (own_tg h.rowC hS) (by decide)
  · exact h.lap c hc k hk hS
theorem DOk.lout {w : World} {B D T : Nat} {s : DD} (h : DOk w B D T s) (hS : Sn D s s.L) : False := by
  have ht := map_tg h.mlas
  rcases hS with hS | hS | hS | hS
  · have := h.disk.tg; rw [← hS, ht] at this; cases this
  · exact h.neq hS.symm
  · have := own_tg h.rowC hS; rw [ht] at this; cases this
  · have := own_tg h.rowL hS; rw [ht] at this; cases this
/-- a new file -/
abbrev fnew (F : Nat) : FL := ⟨F, .slice none 0 0, .slice none 0 0, .slice none 0 0, [], [], []⟩
theorem fnew_bs (F : Nat) : fbs (fnew F) = [F] := rfl
theorem fnew_ok {w : World} {B F : Nat} (h : At w F 95 [.slice none 0 0, .slice none 0 0, .slice none 0 0]) (hB : B ≤ F) : FOk w B (fnew F) :=
  ⟨hB, h, World.ownsRow_nil _ _ _ _, World.ownsRow_nil _ _ _ _, (fun g hg => by cases hg), World.ownsRow_nil _ _ _ _, fun l hl => by cases hl⟩
theorem ml_fr {S : Nat → Prop} {w w' : World} {B : Nat} (h : ML w) (k : Fr S w w') (hB : B ≤ w.heap.size) (hl : 0 < B) (hm : ¬ S 0) : ML w' := by
  obtain ⟨m, hm0⟩ := h
  refine ⟨m, ?_⟩
  rw [World.cell?_of_block (k.block _ (by show 0 < _; omega) hm)]
  exact hm0
theorem DOk.sn_ml {w : World} {B D T : Nat} {s : DD} (h : DOk w B D T s) : ¬ Sn D s 0 := fun hS => by
  have hl := h.low
  rcases hS with hS | hS | hS | hS
  · omega
  · omega
  · have := (World.ownsRow.lt h.rowC _ hS).1; omega
  · have := (World.ownsRow.lt h.rowL _ hS).1; omega
/-- behind a names' act -/
theorem DOk.named {w w' : World} {B D T N : Nat} {s : DD} (hN : N ≤ w.heap.size) (h : DOk w B D T s) (s' : DD) (c : NA) (k : Fr (Sn D s) w w') (e1 : s'.M = s.M) (e2 : s'.L = s.L) (e3 : s'.nL = s.nL) (e4 : s'.dl = s.dl) (e5 : s'.las = s.las) (e6 : s'.chs = s.chs ++ [c]) (e7 : s'.n0 = s.n0) (e8 : s'.room = s.room)
    (hd : At w' D 85 (dcl s')) (hm : OM w' s'.M s'.nM s'.dm) (hn : MN s'.dm s'.nf) (hnd : (s'.nf.map (·.1)).Nodup) (hnm : ∀ p ∈ s'.nf, isNm p.1 = true)
    (hC : w'.ownsRow B 106 1 s'.vC s'.chs.length (s'.chs.map nav)) (hL : w'.ownsRow B 88 1 s'.vLo s'.of.length (s'.of.map fun f => pv f.b)) (hc : NAOk w' c) (hlc : ∀ k ∈ nbs c, s'.vLo.ownBlock ≠ some k) (hFC : Frs w s.vC s'.vC) (hFL : Frs w s.vLo s'.vLo) (hcn : ∀ k ∈ nbs c, N ≤ k)
    (hf : ∀ f ∈ fls s', f ∈ fls s ∨ (FOk w' B f ∧ fbs f = [f.b] ∧ w.heap.size ≤ f.b ∧ f.nb = [] ∧ f.lb = [] ∧ f.lo = [])) (hfd : ((fls s').map (·.b)).Nodup)
    (nM : s'.nM ≤ s.nM + 1) (no : s'.of.length ≤ s.of.length + 1) (nt : s'.trn = s.trn) (na : s'.acts ≤ s.acts + 1) (nl : lsd (fls s') ≤ lsd (fls s)) (nu : usd s'.nf ≤ usd s.nf) (hT : T + 1 ≤ 100000) : DOk w' B D (T + 1) s' ∧ Nw N D s s' := by
  have fo : ∀ f ∈ fls s, FOk w' B f := fun f hf => (h.fok f hf).fr k (fun b hb hS => h.fout (h.fok f hf) hb hS)
  obtain ⟨n1, n2, n3, n4, n5, n6, n7, n8, n9, n10, n11⟩ := h.num
  refine ⟨⟨ml_fr h.ml k h.hB h.low.1 h.sn_ml, by rw [e1, e2]; exact h.low, Nat.le_trans h.hB k.size, hd, hm, hn, hnd, hnm, ?_, by rw [e4, e5]; exact h.isl, by rw [e1, e2]; exact h.neq, hC, hL, ?_, ?_, ?_, hfd, ?_, ?_, ?_⟩, ?_⟩
  · rw [e2, e3, e4]; exact k.map h.mlas h.lout
  · intro c' hc'
    rw [e6] at hc'
    rcases List.mem_append.1 hc' with hc' | hc'
    · exact (h.chk c' hc').fr k (fun b hb hS => h.nout hc' hb hS)
    · obtain rfl := List.mem_singleton.1 hc'; exact hc
  · intro c' hc' b hb e
    rw [e6] at hc'
    rcases List.mem_append.1 hc' with hc' | hc'
    · rcases hFL b e with h1 | h1
      · exact h.lap c' hc' b hb h1
      · have := (h.chk c' hc').lt b hb; omega
    · obtain rfl := List.mem_singleton.1 hc'; exact hlc b hb e
  · intro f hf'
    rcases hf f hf' with h1 | h1
    · exact fo f h1
    · exact h1.1
  · intro f hf' g hg' hne b hb hb'
    rcases hf f hf' with h1 | ⟨_, q2, q3, _⟩
    · rcases hf g hg' with h2 | ⟨_, r2, r3, _⟩
      · exact h.apart f h1 g h2 hne b hb hb'
      · rw [r2] at hb'
        obtain rfl := List.mem_singleton.1 hb'
        have := (h.fok f h1).lt _ hb; omega
    · rw [q2] at hb
      obtain rfl := List.mem_singleton.1 hb
      rcases hf g hg' with h2 | ⟨_, r2, r3, _⟩
      · have := (h.fok g h2).lt _ hb'; omega
      · rw [r2] at hb'
        exact hne (List.mem_singleton.1 hb')
  · intro f hf'
    rcases hf f hf' with h1 | ⟨_, _, _, q4, q5, q6⟩
    · have := h.sz f h1; omega
    · rw [q4, q5, q6]; simp
  · rw [e6, List.length_append, List.length_singleton, e7, e8, e3, nt]
    omega
  · intro b hb
    rcases hb with hb | hb | hb | hb | hb | ⟨f, hf', hb⟩ | ⟨c', hc', hb⟩
    · exact .inl (.inl hb)
    · exact .inl (.inr (.inl (hb.trans e1)))
    · exact .inl (.inr (.inr (.inl (hb.trans e2))))
    · rcases hFC b hb with h1 | h1
      · exact .inl (.inr (.inr (.inr (.inl h1))))
      · exact .inr (Nat.le_trans hN h1)
    · rcases hFL b hb with h1 | h1
      · exact .inl (.inr (.inr (.inr (.inr (.inl h1)))))
      · exact .inr (Nat.le_trans hN h1)
    · rcases hf f hf' with h1 | ⟨_, q2, q3, _⟩
      · exact .inl (.inr (.inr (.inr (.inr (.inr (.inl ⟨f, h1, hb⟩))))))
      · rw [q2] at hb
        obtain rfl := List.mem_singleton.1 hb
        exact .inr (Nat.le_trans hN q3)
    · rw [e6] at hc'
      rcases List.mem_append.1 hc' with hc' | hc'
      · exact .inl (.inr (.inr (.inr (.inr (.inr (.inr ⟨c', hc', hb⟩))))))
      · obtain rfl := List.mem_singleton.1 hc'
        exact .inr (hcn b hb)
/-- the named files without a name; those that lose it -/
def drp (nf : List (List UInt8 × FL)) (l : List UInt8) : List (List UInt8 × FL) := nf.filter fun p => decide (p.1 ≠ l)
theorem mem_drp {nf : List (List UInt8 × FL)} {l : List UInt8} {p : List UInt8 × FL} : p ∈ drp nf l ↔ p ∈ nf ∧ p.1 ≠ l := by simp [drp]
theorem drp_no {nf : List (List UInt8 × FL)} {l : List UInt8} (h : l ∉ nf.map (·.1)) : drp nf l = nf := by
  unfold drp
  rw [List.filter_eq_self]
  intro p hp
  simp only [decide_eq_true_eq]
  rintro rfl
  exact h (List.mem_map_of_mem hp)
/-- with the name there: it splits -/
theorem nf_split : ∀ {nf : List (List UInt8 × FL)} {l : List UInt8}, l ∈ nf.map (·.1) → (nf.map (·.1)).Nodup → ∃ xs f ys, nf = xs ++ (l, f) :: ys ∧ drp nf l = xs ++ ys
  | [], _, h, _ => by cases h
  | p :: r, l, h, nd => by
    by_cases hp : p.1 = l
    · refine ⟨[], p.2, r, by rw [← hp]; rfl, ?_⟩
      have hn : l ∉ r.map (·.1) := by
        rw [List.map_cons, List.nodup_cons] at nd
        rw [← hp]; exact nd.1
      unfold drp
      rw [List.filter_cons, if_neg (by simp [hp])]
      exact drp_no hn
    · rw [List.map_cons, List.mem_cons] at h
      rw [List.map_cons, List.nodup_cons] at nd
      obtain ⟨xs, f, ys, h1, h2⟩ := nf_split (h.resolve_left (fun e => hp e.symm)) nd.2
      refine ⟨p :: xs, f, ys, by rw [h1]; rfl, ?_⟩
      unfold drp at h2 ⊢
      rw [List.filter_cons, if_pos (by simpa using hp), h2]
      rfl
end Go.Proofs.YtaibjeehjhlicaaGreatDoor
namespace Go.Proofs.YtaibjeehjhlicaaGreatDoor
open Go.RowKit Go.Shelf TextNum ModNum
/-- only the disk's own cells -/
theorem DOk.dout {w : World} {B D T : Nat} {s : DD} (h : DOk w B D T s) {k : Nat} (hk : own D s k) (hne : k ≠ D) : ∀ t, tagOf w k = some t → t ≠ 85 := by
  intro t ht e
  subst e
  rcases hk with hk | rfl | rfl | hk | hk | ⟨f, hf, hk⟩ | ⟨c, hc, hk⟩
  · exact hne hk
  · rw [map_tg h.mnow] at ht; cases ht
  · rw [map_tg h.mlas] at ht; cases ht
  · rw [own_tg h.rowC hk] at ht; exact absurd ht (by decide)
  · rw [own_tg h.rowL hk] at ht; exact absurd ht (by decide)
  · exact (h.fok f hf).out hk ht (by decide)
  · exact (h.chk c hc).out hk ht (by decide)
theorem DOk.acted {w w1 : World} {B D T : Nat} {s : DD} (h : DOk w B D T s) (g : w.grownBy w1 (some D)) (a u : Nat) (fl : Int) (dd : Bool) (hd : At w1 D 85 (dcl { s with acts := a, unt := u, flt := fl, dead := dd })) (ha : a ≤ T + 1) (hT : T + 1 ≤ 100000) :
    DOk w1 B D (T + 1) { s with acts := a, unt := u, flt := fl, dead := dd } ∧ Fr (fun k => k = D) w w1 := by
  have fr : Fr (fun k => k = D) w w1 := (Fr.refl (fun k => k = D) w).by g (fun b hb => .inl (Option.some.inj hb).symm)
  have tD := h.disk.tg
  obtain ⟨n1, n2, n3, n4, n5, n6, n7, n8, n9, n10, n11⟩ := h.num
  refine ⟨⟨ml_fr h.ml fr h.hB h.low.1 (fun e => by have := h.low; have e : 0 = D := e; omega), h.low, Nat.le_trans h.hB fr.size, hd, fr.map h.mnow (fun e => ?_), h.isn, h.nd, h.nms, fr.map h.mlas (fun e => ?_), h.isl, h.neq, fr.own h.rowC (fun b hb e => ?_), fr.own h.rowL (fun b hb e => ?_), fun c hc => (h.chk c hc).fr fr (fun b hb e => ?_), h.lap, fun f hf => (h.fok f hf).fr fr (fun b hb e => ?_), h.fnd, h.apart, fun f hf => ?_, ?_⟩, fr⟩
  · have := map_tg h.mnow; have e : s.M = D := e; rw [e, tD] at this; cases this
  · have := map_tg h.mlas; have e : s.L = D := e; rw [e, tD] at this; cases this
  · have e : b = D := e
    subst e
    have := own_tg h.rowC hb; rw [tD] at this; exact absurd this (by decide)
  · have e : b = D := e
    subst e
    have := own_tg h.rowL hb; rw [tD] at this; exact absurd this (by decide)
  · have e : b = D := e
    subst e
    exact (h.chk c hc).out hb tD (by decide)
  · have e : b = D := e
    subst e
    exact (h.fok f hf).out hb tD (by decide)
  · have := h.sz f hf; omega
  · show s.chs.length ≤ T + 1 ∧ s.of.length ≤ T + 1 ∧ s.trn ≤ T + 1 ∧ a ≤ T + 1 ∧ lsd (fls s) ≤ T + 1 ∧ s.nM ≤ s.n0 + (T + 1) ∧ s.nL ≤ s.n0 + (T + 1) ∧ T + 1 ≤ 100000 ∧ s.n0 ≤ 1000000 ∧ s.room ≤ 1099511627776 ∧ usd s.nf ≤ 1099511627776
    omega
def gone (nf : List (List UInt8 × FL)) (l : List UInt8) : List FL := (nf.filter fun p => decide (p.1 = l)).map (·.2)
theorem gone_no {nf : List (List UInt8 × FL)} {l : List UInt8} (h : l ∉ nf.map (·.1)) : gone nf l = [] := by
  unfold gone
  rw [List.filter_eq_nil_iff.2, List.map_nil]
  intro p hp e
  exact h (by rw [← of_decide_eq_true e]; exact List.mem_map_of_mem hp)
theorem gone_split {xs ys : List (List UInt8 × FL)} {l : List UInt8} {f : FL} (nd : ((xs ++ (l, f) :: ys).map (·.1)).Nodup) : gone (xs ++ (l, f) :: ys) l = [f] ∧ drp (xs ++ (l, f) :: ys) l = xs ++ ys := by
  rw [List.map_append, List.map_cons, List.nodup_append, List.nodup_cons] at nd
  have hx : l ∉ xs.map (·.1) := fun h => nd.2.2 l h l List.mem_cons_self rfl
  have hy : l ∉ ys.map (·.1) := nd.2.1.1
  constructor
  · have h1 := gone_no hx
    have h2 := gone_no hy
    unfold gone at h1 h2 ⊢
    rw [List.filter_append, List.map_append, h1, List.filter_cons, if_pos (by simp), List.map_cons, h2]
    rfl
  · have h1 := drp_no hx
    have h2 := drp_no hy
    unfold drp at h1 h2 ⊢
    rw [List.filter_append, h1, List.filter_cons, if_neg (by simp), h2]
theorem usd_append (a b : List (List UInt8 × FL)) : usd (a ++ b) = usd a + usd b := by simp [usd]
theorem usd_cons (p : List UInt8 × FL) (b : List (List UInt8 × FL)) : usd (p :: b) = p.2.nb.length + usd b := by simp [usd]
theorem lsd_append (a b : List FL) : lsd (a ++ b) = lsd a + lsd b := by simp [lsd]
theorem lsd_cons (p : FL) (b : List FL) : lsd (p :: b) = p.lo.length + lsd b := by simp [lsd]
theorem usd_drp {nf : List (List UInt8 × FL)} {l : List UInt8} (nd : (nf.map (·.1)).Nodup) : usd (drp nf l) + ((gone nf l).map fun f => f.nb.length).sum = usd nf := by
  by_cases h : l ∈ nf.map (·.1)
  · obtain ⟨xs, f, ys, rfl, _⟩ := nf_split h nd
    obtain ⟨h1, h2⟩ := gone_split nd
    rw [h1, h2, usd_append, usd_append, usd_cons]
    simp only [List.map_cons, List.map_nil, List.sum_cons, List.sum_nil]
    omega
  · rw [drp_no h, gone_no h]; simp
theorem lsd_drp {nf : List (List UInt8 × FL)} {l : List UInt8} (nd : (nf.map (·.1)).Nodup) : lsd ((drp nf l).map (·.2)) + lsd (gone nf l) = lsd (nf.map (·.2)) := by
  by_cases h : l ∈ nf.map (·.1)
  · obtain ⟨xs, f, ys, rfl, _⟩ := nf_split h nd
    obtain ⟨h1, h2⟩ := gone_split nd
    rw [h1, h2, List.map_append, List.map_append, List.map_cons, lsd_append, lsd_append, lsd_cons, lsd_cons]
    simp only [lsd, List.map_nil, List.sum_nil]
    omega
  · rw [drp_no h, gone_no h]; simp [lsd]
theorem MN.put {dm : DataW Unit} {nf : List (List UInt8 × FL)} (h : MN dm nf) (hm : Maps.IsMap dm) (l : List UInt8) (f : FL) : MN (dm.put (.string l) (fd f.b)) (drp nf l ++ [(l, f)]) := by
  refine ⟨fun x => ?_, fun p hp z => ?_⟩
  · by_cases hx : x = l
    · subst hx
      rw [Maps.has_put_same hm (by simp [WideAt.IsKeyLit])]
      simp
    · rw [Maps.has_put_other (str_ne hx), h.has x]
      simp only [List.mem_map, List.mem_append, List.mem_singleton, mem_drp]
      constructor
      · rintro ⟨p, hp, rfl⟩
        exact ⟨p, .inl ⟨hp, hx⟩, rfl⟩
      · rintro ⟨p, ⟨hp, _⟩ | rfl, e⟩
        · exact ⟨p, hp, e⟩
        · exact absurd e.symm hx
  · rcases List.mem_append.1 hp with hp | hp
    · rw [mem_drp] at hp
      rw [Maps.atKey_put_other (str_ne hp.2)]
      exact h.val p hp.1 z
    · obtain rfl := List.mem_singleton.1 hp
      exact Maps.atKey_put_same hm (by simp [WideAt.IsKeyLit]) _ _
theorem MN.del {dm : DataW Unit} {nf : List (List UInt8 × FL)} (h : MN dm nf) (l : List UInt8) : MN (dm.del (.string l)) (drp nf l) := by
  refine ⟨fun x => ?_, fun p hp z => ?_⟩
  · by_cases hx : x = l
    · subst hx
      rw [Maps.has_del_same]
      simp only [List.mem_map, mem_drp, Bool.false_eq_true, false_iff]
      rintro ⟨p, ⟨_, hp⟩, e⟩
      exact hp e
    · rw [Maps.has_del_other (str_ne hx), h.has x]
      simp only [List.mem_map, mem_drp]
      constructor
      · rintro ⟨p, hp, rfl⟩
        exact ⟨p, ⟨hp, hx⟩, rfl⟩
      · rintro ⟨p, ⟨hp, _⟩, e⟩
        exact ⟨p, hp, e⟩
  · rw [mem_drp] at hp
    rw [Maps.atKey_del_other (str_ne hp.2)]
    exact h.val p hp.1 z
theorem drp_nd {nf : List (List UInt8 × FL)} {l : List UInt8} (nd : (nf.map (·.1)).Nodup) : ((drp nf l).map (·.1)).Nodup := by
  unfold drp
  exact List.Nodup.sublist (List.Sublist.map _ List.filter_sublist) nd
theorem drp_snoc_nd {nf : List (List UInt8 × FL)} {l : List UInt8} {f : FL} (nd : (nf.map (·.1)).Nodup) : ((drp nf l ++ [(l, f)]).map (·.1)).Nodup := by
  rw [List.map_append, List.nodup_append]
  refine ⟨drp_nd nd, by simp, fun a ha b hb e => ?_⟩
  obtain ⟨p, hp, rfl⟩ := List.mem_map.1 ha
  rw [mem_drp] at hp
  simp only [List.map_cons, List.map_nil, List.mem_singleton] at hb
  exact hp.2 (e.trans hb)
/-- what is dropped and what is gone are all -/
theorem drp_perm {nf : List (List UInt8 × FL)} {l : List UInt8} (nd : (nf.map (·.1)).Nodup) : ((drp nf l).map (·.2) ++ gone nf l).Perm (nf.map (·.2)) := by
  by_cases h : l ∈ nf.map (·.1)
  · obtain ⟨xs, f, ys, rfl, _⟩ := nf_split h nd
    obtain ⟨h1, h2⟩ := gone_split nd
    rw [h1, h2, List.map_append, List.map_append, List.map_cons]
    rw [List.append_assoc]
    exact List.Perm.append_left _ (List.perm_append_singleton f _)
  · rw [drp_no h, gone_no h]; simp
end Go.Proofs.YtaibjeehjhlicaaGreatDoor
