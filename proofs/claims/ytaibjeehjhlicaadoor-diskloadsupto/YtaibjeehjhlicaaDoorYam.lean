import Derived.Test.YtaibjeehjhlicaaDoorYal
namespace Go.Proofs.YtaibjeehjhlicaaDoor
open Go.RowKit Go.Shelf TextNum ModNum
/-- what a block's cells are -/
def tagOf (w : World) (k : Nat) : Option TypeId := match w.heap[k]? with
  | some (.cells _ e _) => some e
  | _ => none
theorem At.tg {w : World} {b : Nat} {t : TypeId} {cs : List Value} (h : At w b t cs) : tagOf w b = some t := by
  unfold At at h
  unfold tagOf
  rw [h]
theorem own_tg {w : World} {B n m k : Nat} {e : TypeId} {v : Value} {xs : List Value} (h : w.ownsRow B e m v n xs) (hk : v.ownBlock = some k) : tagOf w k = some e := by
  rcases h.2 with ⟨rfl, _⟩ | ⟨g, cap, cur, rfl, _, hg, _⟩
  · cases hk
  · obtain rfl : g = k := Option.some.inj hk
    unfold tagOf
    rw [hg]
theorem map_tg {w : World} {M n : Nat} {dm : DataW Unit} (h : OM w M n dm) : tagOf w M = none := by
  obtain ⟨es, cl, hb, _⟩ := h
  unfold tagOf
  rw [hb]
def ftags : List TypeId := [51, 5, 123, 3, 27]
theorem FOk.tg {w : World} {B : Nat} {f : FL} (h : FOk w B f) : ∀ k ∈ fbs f, ∃ e ∈ ftags, tagOf w k = some e := by
  intro k hk
  rcases List.mem_cons.1 hk with rfl | hk
  · exact ⟨_, by simp [ftags], h.file.tg⟩
  rcases List.mem_append.1 hk with hk | hk
  · exact ⟨_, by simp [ftags], own_tg h.now (mem_vbs.1 hk)⟩
  rcases List.mem_append.1 hk with hk | hk
  · exact ⟨_, by simp [ftags], own_tg h.last (mem_vbs.1 hk)⟩
  rcases List.mem_append.1 hk with hk | hk
  · exact ⟨_, by simp [ftags], own_tg h.loose (mem_vbs.1 hk)⟩
  obtain ⟨l, hl, hk⟩ := List.mem_flatMap.1 hk
  have he := h.each l hl
  rcases List.mem_cons.1 hk with rfl | hk
  · exact ⟨_, by simp [ftags], he.pa.tg⟩
  rcases List.mem_cons.1 hk with rfl | hk
  · exact ⟨_, by simp [ftags], he.pk.tg⟩
  exact ⟨_, by simp [ftags], own_tg he.own (mem_vbs.1 hk)⟩
theorem NAOk.tg {w : World} {c : NA} (h : NAOk w c) : ∀ k ∈ nbs c, ∃ e ∈ [52, 9], tagOf w k = some e := by
  intro k hk
  unfold nbs at hk
  by_cases e : c.kd = 1
  · rw [if_pos e] at hk
    obtain rfl := List.mem_singleton.1 hk
    exact ⟨_, by simp, h.b2.tg⟩
  · rw [if_neg e] at hk
    rcases List.mem_cons.1 hk with rfl | hk
    · refine ⟨_, ?_, (h.b1 e).tg⟩
      by_cases e0 : c.kd = 0 <;> simp [e0]
    · obtain rfl := List.mem_singleton.1 hk
      exact ⟨_, by simp, h.b2.tg⟩
/-- files' blocks are none of the disk's own -/
theorem FOk.out {w : World} {B : Nat} {f : FL} (h : FOk w B f) {k : Nat} (hk : k ∈ fbs f) {t : Option TypeId} (ht : tagOf w k = t) (hn : ∀ e ∈ ftags, t ≠ some e) : False := by
  obtain ⟨e, he, h1⟩ := h.tg k hk
  exact hn e he (ht.symm.trans h1)
theorem NAOk.out {w : World} {c : NA} (h : NAOk w c) {k : Nat} (hk : k ∈ nbs c) {t : Option TypeId} (ht : tagOf w k = t) (hn : ∀ e ∈ [52, 9], t ≠ some e) : False := by
  obtain ⟨e, he, h1⟩ := h.tg k hk
  exact hn e he (ht.symm.trans h1)
/-- a names' act's blocks: the disk's cells, the map of names, the two rows -/
abbrev Sn (D : Nat) (s : DD) (k : Nat) : Prop := k = D ∨ k = s.M ∨ s.vC.ownBlock = some k ∨ s.vLo.ownBlock = some k
theorem Sn.own {D : Nat} {s : DD} {k : Nat} (h : Sn D s k) : own D s k := by
  rcases h with h | h | h | h
  · exact .inl h
  · exact .inr (.inl h)
  · exact .inr (.inr (.inr (.inl h)))
  · exact .inr (.inr (.inr (.inr (.inl h))))
theorem DOk.fout {w : World} {B D T : Nat} {s : DD} (h : DOk w B D T s) {f : FL} (hf : FOk w B f) {k : Nat} (hk : k ∈ fbs f) (hS : Sn D s k) : False := by
  rcases hS with rfl | rfl | hS | hS
  · exact hf.out hk h.disk.tg (by decide)
  · exact hf.out hk (map_tg h.mnow) (by decide)
  · exact hf.out hk (own_tg h.rowC hS) (by decide)
  · exact hf.out hk (own_tg h.rowL hS) (by decide)
theorem DOk.nout {w : World} {B D T : Nat} {s : DD} (h : DOk w B D T s) {c : NA} (hc : c ∈ s.chs) {k : Nat} (hk : k ∈ nbs c) (hS : Sn D s k) : False := by
  rcases hS with rfl | rfl | hS | hS
  · exact (h.chk c hc).out hk h.disk.tg (by decide)
  · exact (h.chk c hc).out hk (map_tg h.mnow) (by decide)
  · exact (h.chk c hc).out hk (own_tg h.rowC hS) (by decide)
  · exact h.lap c hc k hk hS
theorem DOk.lout {w : World} {B D T : Nat} {s : DD} (h : DOk w B D T s) (hS : Sn D s s.L) : False := by
  have ht := map_tg h.mlas
  rcases hS with hS | hS | hS | hS
  · have := h.disk.tg; rw [← hS, ht] at this; cases this
  · exact h.neq hS.symm
  · have := own_tg h.rowC hS; rw [ht] at this; cases this
  · have := own_tg h.rowL hS; rw [ht] at this; cases this
/-- a new file -/
abbrev fnew (F : Nat) : FL := ⟨F, .slice none 0 0, .slice none 0 0, .slice none 0 0, [], [], []⟩
theorem fnew_bs (F : Nat) : fbs (fnew F) = [F] := rfl
theorem fnew_ok {w : World} {B F : Nat} (h : At w F 51 [.slice none 0 0, .slice none 0 0, .slice none 0 0]) (hB : B ≤ F) : FOk w B (fnew F) :=
  ⟨hB, h, World.ownsRow_nil _ _ _ _, World.ownsRow_nil _ _ _ _, (fun g hg => by cases hg), World.ownsRow_nil _ _ _ _, fun l hl => by cases hl⟩
theorem ml_fr {S : Nat → Prop} {w w' : World} {B : Nat} (h : ML w) (k : Fr S w w') (hB : B ≤ w.heap.size) (hl : 0 < B) (hm : ¬ S 0) : ML w' := by
  obtain ⟨m, hm0⟩ := h
  refine ⟨m, ?_⟩
  rw [World.cell?_of_block (k.block _ (by show 0 < _; omega) hm)]
  exact hm0
theorem DOk.sn_ml {w : World} {B D T : Nat} {s : DD} (h : DOk w B D T s) : ¬ Sn D s 0 := fun hS => by
  have hl := h.low
  rcases hS with hS | hS | hS | hS
  · omega
  · omega
  · have := (World.ownsRow.lt h.rowC _ hS).1; omega
  · have := (World.ownsRow.lt h.rowL _ hS).1; omega
/-- behind a names' act -/
theorem DOk.named {w w' : World} {B D T N : Nat} {s : DD} (hN : N ≤ w.heap.size) (h : DOk w B D T s) (s' : DD) (c : NA) (k : Fr (Sn D s) w w') (e1 : s'.M = s.M) (e2 : s'.L = s.L) (e3 : s'.nL = s.nL) (e4 : s'.dl = s.dl) (e5 : s'.las = s.las) (e6 : s'.chs = s.chs ++ [c]) (e7 : s'.n0 = s.n0) (e8 : s'.room = s.room)
    (hd : At w' D 58 (dcl s')) (hm : OM w' s'.M s'.nM s'.dm) (hn : MN s'.dm s'.nf) (hnd : (s'.nf.map (·.1)).Nodup) (hnm : ∀ p ∈ s'.nf, isNm p.1 = true)
    (hC : w'.ownsRow B 126 1 s'.vC s'.chs.length (s'.chs.map nav)) (hL : w'.ownsRow B 52 1 s'.vLo s'.of.length (s'.of.map fun f => pv f.b)) (hc : NAOk w' c) (hlc : ∀ k ∈ nbs c, s'.vLo.ownBlock ≠ some k) (hFC : Frs w s.vC s'.vC) (hFL : Frs w s.vLo s'.vLo) (hcn : ∀ k ∈ nbs c, N ≤ k)
    (hf : ∀ f ∈ fls s', f ∈ fls s ∨ (FOk w' B f ∧ fbs f = [f.b] ∧ w.heap.size ≤ f.b ∧ f.nb = [] ∧ f.lb = [] ∧ f.lo = [])) (hfd : ((fls s').map (·.b)).Nodup)
    (nM : s'.nM ≤ s.nM + 1) (no : s'.of.length ≤ s.of.length + 1) (nt : s'.trn = s.trn) (na : s'.acts ≤ s.acts + 1) (nl : lsd (fls s') ≤ lsd (fls s)) (nu : usd s'.nf ≤ usd s.nf) (hT : T + 1 ≤ 100000) : DOk w' B D (T + 1) s' ∧ Nw N D s s' := by
  have fo : ∀ f ∈ fls s, FOk w' B f := fun f hf => (h.fok f hf).fr k (fun b hb hS => h.fout (h.fok f hf) hb hS)
  obtain ⟨n1, n2, n3, n4, n5, n6, n7, n8, n9, n10, n11⟩ := h.num
  refine ⟨⟨ml_fr h.ml k h.hB h.low.1 h.sn_ml, by rw [e1, e2]; exact h.low, Nat.le_trans h.hB k.size, hd, hm, hn, hnd, hnm, ?_, by rw [e4, e5]; exact h.isl, by rw [e1, e2]; exact h.neq, hC, hL, ?_, ?_, ?_, hfd, ?_, ?_, ?_⟩, ?_⟩
  · rw [e2, e3, e4]; exact k.map h.mlas h.lout
  · intro c' hc'
    rw [e6] at hc'
    rcases List.mem_append.1 hc' with hc' | hc'
    · exact (h.chk c' hc').fr k (fun b hb hS => h.nout hc' hb hS)
    · obtain rfl := List.mem_singleton.1 hc'; exact hc
  · intro c' hc' b hb e
    rw [e6] at hc'
    rcases List.mem_append.1 hc' with hc' | hc'
    · rcases hFL b e with h1 | h1
      · exact h.lap c' hc' b hb h1
      · have := (h.chk c' hc').lt b hb; omega
    · obtain rfl := List.mem_singleton.1 hc'; exact hlc b hb e
  · intro f hf'
    rcases hf f hf' with h1 | h1
    · exact fo f h1
    · exact h1.1
  · intro f hf' g hg' hne b hb hb'
    rcases hf f hf' with h1 | ⟨_, q2, q3, _⟩
    · rcases hf g hg' with h2 | ⟨_, r2, r3, _⟩
      · exact h.apart f h1 g h2 hne b hb hb'
      · rw [r2] at hb'
        obtain rfl := List.mem_singleton.1 hb'
        have := (h.fok f h1).lt _ hb; omega
    · rw [q2] at hb
      obtain rfl := List.mem_singleton.1 hb
      rcases hf g hg' with h2 | ⟨_, r2, r3, _⟩
      · have := (h.fok g h2).lt _ hb'; omega
      · rw [r2] at hb'
        exact hne (List.mem_singleton.1 hb')
  · intro f hf'
    rcases hf f hf' with h1 | ⟨_, _, _, q4, q5, q6⟩
    · have := h.sz f h1; omega
    · rw [q4, q5, q6]; simp
  · rw [e6, List.length_append, List.length_singleton, e7, e8, e3, nt]
    omega
  · intro b hb
    rcases hb with hb | hb | hb | hb | hb | ⟨f, hf', hb⟩ | ⟨c', hc', hb⟩
    · exact .inl (.inl hb)
    · exact .inl (.inr (.inl (hb.trans e1)))
    · exact .inl (.inr (.inr (.inl (hb.trans e2))))
    · rcases hFC b hb with h1 | h1
      · exact .inl (.inr (.inr (.inr (.inl h1))))
      · exact .inr (Nat.le_trans hN h1)
    · rcases hFL b hb with h1 | h1
      · exact .inl (.inr (.inr (.inr (.inr (.inl h1)))))
      · exact .inr (Nat.le_trans hN h1)
    · rcases hf f hf' with h1 | ⟨_, q2, q3, _⟩
      · exact .inl (.inr (.inr (.inr (.inr (.inr (.inl ⟨f, h1, hb⟩))))))
      · rw [q2] at hb
        obtain rfl := List.mem_singleton.1 hb
        exact .inr (Nat.le_trans hN q3)
    · rw [e6] at hc'
      rcases List.mem_append.1 hc' with hc' | hc'
      · exact .inl (.inr (.inr (.inr (.inr (.inr (.inr ⟨c', hc', hb⟩))))))
      · obtain rfl := List.mem_singleton.1 hc'
        exact .inr (hcn b hb)
/-- the named files without a name; those that lose it -/
def drp (nf : List (List UInt8 × FL)) (l : List UInt8) : List (List UInt8 × FL) := nf.filter fun p => decide (p.1 ≠ l)
theorem mem_drp {nf : List (List UInt8 × FL)} {l : List UInt8} {p : List UInt8 × FL} : p ∈ drp nf l ↔ p ∈ nf ∧ p.1 ≠ l := by simp [drp]
theorem drp_no {nf : List (List UInt8 × FL)} {l : List UInt8} (h : l ∉ nf.map (·.1)) : drp nf l = nf := by
  unfold drp
  rw [List.filter_eq_self]
  intro p hp
  simp only [decide_eq_true_eq]
  rintro rfl
  exact h (List.mem_map_of_mem hp)
/-- with the name there: it splits -/
theorem nf_split : ∀ {nf : List (List UInt8 × FL)} {l : List UInt8}, l ∈ nf.map (·.1) → (nf.map (·.1)).Nodup → ∃ xs f ys, nf = xs ++ (l, f) :: ys ∧ drp nf l = xs ++ ys
  | [], _, h, _ => by cases h
  | p :: r, l, h, nd => by
    by_cases hp : p.1 = l
    · refine ⟨[], p.2, r, by rw [← hp]; rfl, ?_⟩
      have hn : l ∉ r.map (·.1) := by
        rw [List.map_cons, List.nodup_cons] at nd
        rw [← hp]; exact nd.1
      unfold drp
      rw [List.filter_cons, if_neg (by simp [hp])]
      exact drp_no hn
    · rw [List.map_cons, List.mem_cons] at h
      rw [List.map_cons, List.nodup_cons] at nd
      obtain ⟨xs, f, ys, h1, h2⟩ := nf_split (h.resolve_left (fun e => hp e.symm)) nd.2
      refine ⟨p :: xs, f, ys, by rw [h1]; rfl, ?_⟩
      unfold drp at h2 ⊢
      rw [List.filter_cons, if_pos (by simpa using hp), h2]
      rfl
end Go.Proofs.YtaibjeehjhlicaaDoor
