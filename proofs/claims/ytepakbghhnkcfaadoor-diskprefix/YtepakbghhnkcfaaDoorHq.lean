import Derived.Test.YtepakbghhnkcfaaDoorHn
namespace Go.Proofs.YtepakbghhnkcfaaDoor
open Go.RowKit Go.Shelf TextNum ModNum
/-- the bytes of a name in a list of files -/
def bOf (L : List (List UInt8 × List UInt8)) (l : List UInt8) : List UInt8 := ((L.find? fun p => p.1 == l).map (·.2)).getD []
/-- a list of files, sorted by name -/
def srF (L : List (List UInt8 × List UInt8)) : List (List UInt8 × List UInt8) := (srt (L.map Prod.fst)).map fun l => (l, bOf L l)
theorem bOf_mem {L : List (List UInt8 × List UInt8)} (nd : (L.map Prod.fst).Nodup) {p : List UInt8 × List UInt8} (hp : p ∈ L) : bOf L p.1 = p.2 := by
  unfold bOf
  obtain ⟨xs, ys, e⟩ := List.append_of_mem hp
  subst e
  rw [List.map_append, List.map_cons, List.nodup_append] at nd
  have h1 : xs.find? (fun q => q.1 == p.1) = none := List.find?_eq_none.2 (fun q hq e => nd.2.2 q.1 (List.mem_map_of_mem hq) p.1 List.mem_cons_self (beq_iff_eq.1 e))
  rw [List.find?_append, h1, List.find?_cons]
  simp
theorem fsOf_srF (nf : List (List UInt8 × FL)) : fsOf nf = srF (nf.map fun p => (p.1, p.2.nb)) := by
  unfold fsOf srF
  rw [List.map_map]
  congr 1
  funext l
  unfold nbOf bOf
  rw [List.find?_map]
  have e : ((fun p : List UInt8 × List UInt8 => p.1 == l) ∘ fun p : List UInt8 × FL => (p.1, p.2.nb)) = fun p => p.1 == l := rfl
  rw [e]
  cases nf.find? fun p => p.1 == l <;> rfl
/-- names that rise, of the same files -/
theorem srF_eq {L L' : List (List UInt8 × List UInt8)} (nd : (L.map Prod.fst).Nodup) (hp : L'.Perm L) (hs : (L'.map Prod.fst).Pairwise (fun x y => x ≤ y)) : srF L = L' := by
  unfold srF
  have h1 : srt (L.map Prod.fst) = L'.map Prod.fst := List.Perm.eq_of_pairwise (le := fun x y => x ≤ y) (fun _ _ _ _ h k => List.le_antisymm h k) (srt_pw _) hs ((srt_perm _).trans (hp.map Prod.fst).symm)
  rw [h1, List.map_map]
  conv => rhs; rw [← List.map_id L']
  refine List.map_congr_left (fun p hq => ?_)
  show (p.1, bOf L p.1) = p
  rw [bOf_mem nd (hp.mem_iff.1 hq)]
theorem srF_fst (L : List (List UInt8 × List UInt8)) : (srF L).map Prod.fst = srt (L.map Prod.fst) := by
  unfold srF
  rw [List.map_map]
  conv => rhs; rw [← List.map_id (srt _)]
  rfl
theorem nodup_of_fst {L : List (List UInt8 × List UInt8)} (nd : (L.map Prod.fst).Nodup) : L.Nodup := by
  induction L with
  | nil => exact List.nodup_nil
  | cons p r ih =>
    rw [List.map_cons, List.nodup_cons] at nd
    exact List.nodup_cons.2 ⟨fun h => nd.1 (List.mem_map_of_mem h), ih nd.2⟩
theorem srF_mem {L : List (List UInt8 × List UInt8)} (nd : (L.map Prod.fst).Nodup) {p : List UInt8 × List UInt8} : p ∈ srF L ↔ p ∈ L := by
  unfold srF
  rw [List.mem_map]
  constructor
  · rintro ⟨l, hl, rfl⟩
    obtain ⟨q, hq, rfl⟩ := List.mem_map.1 (srt_mem.1 hl)
    rw [bOf_mem nd hq]
    exact hq
  · intro hp
    exact ⟨p.1, srt_mem.2 (List.mem_map_of_mem hp), by rw [bOf_mem nd hp]⟩
theorem srF_nd {L : List (List UInt8 × List UInt8)} (nd : (L.map Prod.fst).Nodup) : ((srF L).map Prod.fst).Nodup := by
  rw [srF_fst]
  exact (srt_perm _).nodup_iff.2 nd
theorem srF_perm {L : List (List UInt8 × List UInt8)} (nd : (L.map Prod.fst).Nodup) : (srF L).Perm L :=
  (List.perm_ext_iff_of_nodup (nodup_of_fst (srF_nd nd)) (nodup_of_fst nd)).2 (fun _ => srF_mem nd)
theorem srF_srF {L : List (List UInt8 × List UInt8)} (nd : (L.map Prod.fst).Nodup) : srF (srF L) = srF L :=
  srF_eq (srF_nd nd) (List.Perm.refl _) (by rw [srF_fst]; exact srt_pw _)
/-- which writes are left of a file: none, one -/
theorem dat_app (cs : List Int) (k0 i : Nat) (lb : List UInt8) (A B : List WL) : dat cs k0 i lb (A ++ B) = dat cs (k0 + A.length) i (dat cs k0 i lb A) B := by
  unfold dat
  rw [List.zipIdx_append, List.foldl_append]
theorem dat_none {cs : List Int} {i : Nat} {ws : List WL} : ∀ {k0 : Nat} {lb : List UInt8}, (∀ x ∈ ws, x.i ≠ i) → dat cs k0 i lb ws = lb := by
  induction ws with
  | nil => intro k0 lb _; rfl
  | cons x r ih =>
    intro k0 lb h
    rw [show x :: r = [x] ++ r from rfl, dat_app, ih (fun y hy => h y (List.mem_cons_of_mem _ hy))]
    show (if x.i = i then _ else lb) = lb
    rw [if_neg (h x List.mem_cons_self)]
theorem dat_one {cs : List Int} {k0 i j : Nat} {lb : List UInt8} {ws : List WL} (hj : j < ws.length) (h1 : ws[j].i = i) (h2 : ∀ m (hm : m < ws.length), m ≠ j → ws[m].i ≠ i) : dat cs k0 i lb ws = wr lb ws[j].l.p (ws[j].l.ds.take (cz cs (k0 + j) ws[j].l.ds.length)) := by
  have e : ws = ws.take j ++ (ws[j] :: ws.drop (j + 1)) := by
    rw [List.getElem_cons_drop, List.take_append_drop]
  have hl : (ws.take j).length = j := by rw [List.length_take]; omega
  conv => lhs; rw [e]
  rw [dat_app, dat_none (ws := ws.take j) (fun x hx => ?_), hl, show ws[j] :: ws.drop (j + 1) = [ws[j]] ++ ws.drop (j + 1) from rfl, dat_app, dat_none (ws := ws.drop (j + 1)) (fun x hx => ?_)]
  · show (if ws[j].i = i then _ else lb) = _
    rw [if_pos h1]
  · obtain ⟨m, hm, rfl⟩ := List.getElem_of_mem hx
    rw [List.length_drop] at hm
    rw [List.getElem_drop]
    exact h2 _ (by omega) (by omega)
  · obtain ⟨m, hm, rfl⟩ := List.getElem_of_mem hx
    rw [List.length_take] at hm
    rw [List.getElem_take]
    exact h2 _ (by omega) (by omega)
theorem wr_nil (ds : List UInt8) : wr [] 0 ds = ds := by
  unfold wr splice
  split
  · rename_i h; exact h.symm
  · simp
theorem wls_tn (gs : LG) : (wls gs).map (·.l.tn) = gs.flatMap fun p => p.2.lo.map (·.tn) := by
  unfold wls
  rw [List.map_flatMap]
  simp only [List.map_map]
  have : ∀ (l : List ((List UInt8 × FL) × Nat)), (l.flatMap fun p => p.1.2.lo.map ((fun x : WL => x.l.tn) ∘ fun x => (⟨p.2, x⟩ : WL))) = (l.map Prod.fst).flatMap fun p => p.2.lo.map (·.tn) := fun l => by
    rw [List.flatMap_map]
    rfl
  rw [this, List.zipIdx_map_fst]
theorem wls_has {gs : LG} {i : Nat} (hi : i < gs.length) {l : LW} (hl : l ∈ gs[i].2.lo) : (⟨i, l⟩ : WL) ∈ wls gs := by
  unfold wls
  rw [List.mem_flatMap]
  refine ⟨(gs[i], i), ?_, List.mem_map.2 ⟨l, hl, rfl⟩⟩
  rw [List.mem_zipIdx_iff_getElem?]
  exact List.getElem?_eq_getElem hi
theorem fm_single {α β : Type} (f : α → List β) (g : α → β) : ∀ l : List α, (∀ x ∈ l, f x = [g x]) → l.flatMap f = l.map g
  | [], _ => rfl
  | a :: r, h => by
    rw [List.flatMap_cons, List.map_cons, h a List.mem_cons_self, fm_single f g r (fun x hx => h x (List.mem_cons_of_mem _ hx))]
    rfl
theorem nd_of_map {α β : Type} (f : α → β) : ∀ l : List α, (l.map f).Nodup → l.Nodup
  | [], _ => List.nodup_nil
  | a :: r, h => by
    rw [List.map_cons, List.nodup_cons] at h
    exact List.nodup_cons.2 ⟨fun k => h.1 (List.mem_map_of_mem k), nd_of_map f r h.2⟩
/-- files that are made one behind the other, each with one loose write -/
structure PF (chs : List NA) (nf : LG) (K : List (List UInt8)) : Prop where
  nl : nf.length = K.length
  cl : chs.length = K.length
  fl : ∀ i (h : i < K.length), nf[i].1 = ltr i ∧ nf[i].2.lb = [] ∧ nf[i].2.nb = K[i] ∧ (∃ l, nf[i].2.lo = [l] ∧ l.p = 0 ∧ l.ds = K[i] ∧ l.tn = (i : Int)) ∧ chs[i].kd = 0 ∧ chs[i].s.data.toList = ltr i ∧ chs[i].f = nf[i].2.b
theorem PF.run {chs : List NA} {nf : LG} {K : List (List UInt8)} (h : PF chs nf K) (hK : K.length ≤ 100) : ∀ k, k ≤ K.length → ∀ l b, nrun (chs.take k) (fun _ => none) l = some b ↔ ∃ i, ∃ hi : i < nf.length, i < k ∧ l = ltr i ∧ b = nf[i].2.b := by
  intro k
  induction k with
  | zero =>
    intro _ l b
    constructor
    · intro e; cases e
    · rintro ⟨i, _, h0, _⟩; omega
  | succ k ih =>
    intro hk l b
    have hc : k < chs.length := by rw [h.cl]; omega
    have hn : k < nf.length := by rw [h.nl]; omega
    obtain ⟨h1, _, _, _, h5, h6, h7⟩ := h.fl k (by omega)
    rw [List.take_succ_eq_append_getElem hc, nrun_snoc]
    unfold nac
    rw [if_pos h5, h6, h7]
    unfold nput
    by_cases hl : l = ltr k
    · rw [if_pos hl]
      constructor
      · intro e
        exact ⟨k, hn, by omega, hl, (Option.some.inj e).symm⟩
      · rintro ⟨i, hi, hik, e1, e2⟩
        have hin := h.nl
        have : k = i := ltr_inj k (by omega) i (by omega) (hl.symm.trans e1)
        subst this
        rw [e2]
    · rw [if_neg hl, ih (by omega)]
      constructor
      · rintro ⟨i, hi, hik, e1, e2⟩
        exact ⟨i, hi, by omega, e1, e2⟩
      · rintro ⟨i, hi, hik, e1, e2⟩
        refine ⟨i, hi, ?_, e1, e2⟩
        rcases Nat.lt_or_ge i k with h0 | h0
        · exact h0
        · have : i = k := by omega
          subst this
          exact absurd e1 hl
theorem ltr_up : ∀ k, k ≤ 100 → ∀ m, m ≤ 100 → k < m → ltr k ≤ ltr m := by decide +kernel
/-- what a crash leaves of them -/
theorem PF.left {chs : List NA} {nf : LG} {K : List (List UInt8)} (h : PF chs nf K) (hK : K.length ≤ 100) (nb : (nf.map (·.2.b)).Nodup) {cs : List Int} {gs : LG} {ws : List WL} (n : Nat) (hn : n ≤ K.length)
    (g1 : (gs.map Prod.fst).Nodup) (g2 : ∀ l, l ∈ gs.map Prod.fst ↔ (nrun (chs.take n) (fun _ => none) l).isSome = true) (g3 : ∀ p ∈ gs, p.2 ∈ nf.map (·.2) ∧ nrun (chs.take n) (fun _ => none) p.1 = some p.2.b)
    (g4 : ws.Perm (wls gs)) (g5 : ws.Pairwise fun x y => x.l.tn ≤ y.l.tn) : srF (lfs cs 1 gs ws) = (List.range n).map fun i => (ltr i, (K.getD i []).take (cz cs (i + 1) (K.getD i []).length)) := by
  have hR := h.run hK n hn
  have hnl := h.nl
  -- each of them is a file
  have q1 : ∀ p ∈ gs, ∃ i, ∃ hi : i < nf.length, i < n ∧ p = nf[i] := fun p hp => by
    obtain ⟨h1, h2⟩ := g3 p hp
    obtain ⟨i, hi, hin, e1, e2⟩ := (hR _ _).1 h2
    refine ⟨i, hi, hin, ?_⟩
    obtain ⟨q, hq, e3⟩ := List.mem_map.1 h1
    obtain ⟨j, hj, rfl⟩ := List.getElem_of_mem hq
    have : i = j := by
      have h4 : (nf.map (·.2.b))[i]'(by simpa using hi) = (nf.map (·.2.b))[j]'(by simpa using hj) := by
        rw [List.getElem_map, List.getElem_map, e3]
        exact e2.symm
      exact (List.getElem_inj nb).1 h4
    subst this
    have h5 := (h.fl i (by omega)).1
    rw [Prod.ext_iff]
    exact ⟨e1.trans h5.symm, e3.symm⟩
  have q2 : ∀ i, i < n → ∃ j, ∃ hj : j < gs.length, ∃ hi : i < nf.length, gs[j] = nf[i] := fun i hi => by
    have hin : i < nf.length := by omega
    have h1 : ltr i ∈ gs.map Prod.fst := (g2 _).2 (by rw [(hR _ _).2 ⟨i, hin, hi, rfl, rfl⟩]; rfl)
    obtain ⟨p, hp, e⟩ := List.mem_map.1 h1
    obtain ⟨i', hi', hin', e'⟩ := q1 p hp
    have : i = i' := ltr_inj i (by omega) i' (by omega) (by rw [← e, e']; exact (h.fl i' (by omega)).1)
    subst this
    obtain ⟨j, hj, rfl⟩ := List.getElem_of_mem hp
    exact ⟨j, hj, hin, e'⟩
  -- the writes' turns are 0, 1, ..
  have q3 : ws.map (·.l.tn) = (List.range n).map fun i : Nat => (i : Int) := by
    refine List.Perm.eq_of_pairwise (le := fun x y : Int => x ≤ y) (fun _ _ _ _ h k => Int.le_antisymm h k) (List.pairwise_map.2 g5) ?_ ?_
    · rw [List.pairwise_map]
      refine List.Pairwise.imp (fun hlt => ?_) List.pairwise_lt_range
      omega
    · refine (g4.map _).trans ?_
      rw [wls_tn]
      have e : (gs.flatMap fun p => p.2.lo.map (·.tn)) = gs.map fun p => (p.2.lo.map (·.tn)).headD 0 := by
        refine fm_single _ _ gs (fun p hp => ?_)
        obtain ⟨i, hi, hin, rfl⟩ := q1 p hp
        obtain ⟨_, _, _, ⟨l, hl, _⟩, _⟩ := h.fl i (by omega)
        rw [hl]
        rfl
      rw [e]
      refine (List.perm_ext_iff_of_nodup ?_ ?_).2 (fun x => ?_)
      · have e2 : (gs.map fun p => (p.2.lo.map (·.tn)).headD 0).map (fun t : Int => ltr t.toNat) = gs.map Prod.fst := by
          rw [List.map_map]
          refine List.map_congr_left (fun p hp => ?_)
          obtain ⟨i, hi, hin, rfl⟩ := q1 p hp
          obtain ⟨h1, _, _, ⟨l, hl, _, _, ht⟩, _⟩ := h.fl i (by omega)
          show ltr ((nf[i].2.lo.map LW.tn).headD 0).toNat = nf[i].1
          rw [hl, h1]
          show ltr l.tn.toNat = ltr i
          rw [ht]
          rfl
        rw [← e2] at g1
        exact nd_of_map _ _ g1
      · exact List.Pairwise.map _ (fun a b hab e => hab (by exact_mod_cast e)) List.nodup_range
      · rw [List.mem_map, List.mem_map]
        constructor
        · rintro ⟨p, hp, rfl⟩
          obtain ⟨i, hi, hin, rfl⟩ := q1 p hp
          obtain ⟨_, _, _, ⟨l, hl, _, _, ht⟩, _⟩ := h.fl i (by omega)
          exact ⟨i, List.mem_range.2 hin, by rw [hl]; exact ht.symm⟩
        · rintro ⟨i, hi, rfl⟩
          have hi := List.mem_range.1 hi
          obtain ⟨j, hj, hin, e⟩ := q2 i hi
          obtain ⟨_, _, _, ⟨l, hl, _, _, ht⟩, _⟩ := h.fl i (by omega)
          exact ⟨gs[j], List.getElem_mem hj, by rw [e, hl]; exact ht⟩
  have q4 : ws.length = n := by have := congrArg List.length q3; simpa using this
  have q5 : ∀ j (hj : j < ws.length), ws[j].l.tn = (j : Int) := fun j hj => by
    have := congrArg (fun l => l[j]?) q3
    simp only [List.getElem?_map, List.getElem?_eq_getElem hj, Option.map_some] at this
    rw [List.getElem?_range (by omega)] at this
    exact Option.some.inj this
  -- a file's bytes
  have q6 : ∀ i, i < n → ∀ j (hj : j < gs.length) (hi : i < nf.length), gs[j] = nf[i] → dat cs 1 j gs[j].2.lb ws = (K.getD i []).take (cz cs (i + 1) (K.getD i []).length) := fun i hin j hj hi e => by
    obtain ⟨_, h2, _, ⟨l, hl, hp, hd, ht⟩, _⟩ := h.fl i (by omega)
    have hw : ∀ m (hm : m < ws.length), ws[m].i = j → m = i := fun m hm e1 => by
      obtain ⟨hi1, hl1⟩ := wls_mem (g4.mem_iff.1 (List.getElem_mem hm))
      have e2 : gs[ws[m].i] = gs[j] := by congr 1
      rw [e2, e, hl, List.mem_singleton] at hl1
      have := q5 m hm
      rw [hl1, ht] at this
      omega
    obtain ⟨m, hm, e1⟩ := List.getElem_of_mem (g4.mem_iff.2 (wls_has hj (l := l) (by rw [e, hl]; exact List.mem_singleton.2 rfl)))
    have e3 := hw m hm (by rw [e1])
    subst e3
    rw [dat_one hm (by rw [e1]) (fun k hk hne e4 => hne (hw k hk e4)), e1, e, h2]
    show wr [] l.p (l.ds.take (cz cs (1 + m) l.ds.length)) = _
    have hKi : K.getD m [] = K[m]'(by omega) := by
      rw [List.getD_eq_getElem?_getD, List.getElem?_eq_getElem (by omega)]
      rfl
    rw [hp, wr_nil, hd, hKi, Nat.add_comm 1 m]
  have nd : ((lfs cs 1 gs ws).map Prod.fst).Nodup := by rw [lfs_fst]; exact g1
  refine srF_eq nd ((List.perm_ext_iff_of_nodup (nodup_of_fst ?_) (nodup_of_fst nd)).2 (fun x => ?_)) ?_
  · rw [List.map_map]
    exact List.Pairwise.map _ (fun a b hab => hab) (List.Pairwise.imp_of_mem (fun {a b} ha hb hab e => hab (ltr_inj a (by have := List.mem_range.1 ha; omega) b (by have := List.mem_range.1 hb; omega) e)) List.nodup_range)
  · rw [List.mem_map]
    constructor
    · rintro ⟨i, hi, rfl⟩
      have hi := List.mem_range.1 hi
      obtain ⟨j, hj, hin, e⟩ := q2 i hi
      refine List.mem_of_getElem? (i := j) ?_
      rw [lfs_get hj, q6 i hi j hj hin e, e, (h.fl i (by omega)).1]
    · intro hx
      obtain ⟨j, hj, e1⟩ := List.getElem_of_mem hx
      rw [lfs_len] at hj
      have e2 := lfs_get (cs := cs) (k0 := 1) (ws := ws) hj
      rw [List.getElem?_eq_getElem (by rw [lfs_len]; exact hj), e1] at e2
      obtain ⟨i, hi, hin, e3⟩ := q1 gs[j] (List.getElem_mem hj)
      refine ⟨i, List.mem_range.2 hin, ?_⟩
      rw [Option.some.inj e2, q6 i hin j hj hi e3, e3, (h.fl i (by omega)).1]
  · rw [List.map_map, List.pairwise_map]
    refine List.Pairwise.imp_of_mem (fun {a b} ha hb hab => ?_) List.pairwise_lt_range
    exact ltr_up a (by have := List.mem_range.1 ha; omega) b (by have := List.mem_range.1 hb; omega) hab
end Go.Proofs.YtepakbghhnkcfaaDoor
