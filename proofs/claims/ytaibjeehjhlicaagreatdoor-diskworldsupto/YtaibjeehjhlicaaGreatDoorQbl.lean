import Derived.Test.YtaibjeehjhlicaaGreatDoorQas
namespace Go.Proofs.YtaibjeehjhlicaaGreatDoor
open Go.RowKit Go.Shelf TextNum ModNum
/-- a file's bytes behind the first writes that are left; k0: the number of the first choice -/
def dat (cs : List Int) (k0 i : Nat) (lb : List UInt8) (ws : List WL) : List UInt8 := (ws.zipIdx k0).foldl (fun acc x => if x.1.i = i then wr acc x.1.l.p (x.1.l.ds.take (cz cs x.2 x.1.l.ds.length)) else acc) lb
theorem dat_nil (cs : List Int) (k0 i : Nat) (lb : List UInt8) : dat cs k0 i lb [] = lb := rfl
theorem dat_snoc (cs : List Int) (k0 i : Nat) (lb : List UInt8) (ws : List WL) (x : WL) : dat cs k0 i lb (ws ++ [x]) = if x.i = i then wr (dat cs k0 i lb ws) x.l.p (x.l.ds.take (cz cs (k0 + ws.length) x.l.ds.length)) else dat cs k0 i lb ws := by
  unfold dat
  rw [List.zipIdx_append, List.foldl_append]
  rfl
theorem dat_le {cs : List Int} {k0 i : Nat} {lb : List UInt8} {ws : List WL} (h : lb.length ≤ 1099511627776) (hw : ∀ x ∈ ws, x.l.p + x.l.ds.length ≤ 1099511627776) : (dat cs k0 i lb ws).length ≤ 1099511627776 := by
  unfold dat
  have : ∀ (l : List (WL × Nat)) (acc : List UInt8), (∀ x ∈ l, x.1.l.p + x.1.l.ds.length ≤ 1099511627776) → acc.length ≤ 1099511627776 → (l.foldl (fun acc x => if x.1.i = i then wr acc x.1.l.p (x.1.l.ds.take (cz cs x.2 x.1.l.ds.length)) else acc) acc).length ≤ 1099511627776 := by
    intro l
    induction l with
    | nil => exact fun acc _ h => h
    | cons x r ih =>
      intro acc hx ha
      rw [List.foldl_cons]
      refine ih _ (fun y hy => hx y (List.mem_cons_of_mem _ hy)) ?_
      split
      · refine wr_le ha ?_
        have := hx x List.mem_cons_self
        rw [List.length_take]
        omega
      · exact ha
  exact this _ _ (fun x hx => hw x.1 (List.fst_mem_of_mem_zipIdx hx)) h
/-- what is left of the files behind the first j writes -/
def lfs (cs : List Int) (k0 : Nat) (gs : LG) (ws : List WL) : List (List UInt8 × List UInt8) := gs.zipIdx.map fun p => (p.1.1, dat cs k0 p.2 p.1.2.lb ws)
theorem lfs_get {cs : List Int} {k0 : Nat} {gs : LG} {ws : List WL} {i : Nat} (hi : i < gs.length) : (lfs cs k0 gs ws)[i]? = some (gs[i].1, dat cs k0 i gs[i].2.lb ws) := by
  unfold lfs
  rw [List.getElem?_map, List.getElem?_zipIdx, List.getElem?_eq_getElem hi]
  simp
theorem lfs_len (cs : List Int) (k0 : Nat) (gs : LG) (ws : List WL) : (lfs cs k0 gs ws).length = gs.length := by simp [lfs]
theorem lfs_nil (cs : List Int) (k0 : Nat) (gs : LG) : lfs cs k0 gs [] = gs.map fun p => (p.1, p.2.lb) := by
  apply List.ext_getElem?
  intro i
  by_cases hi : i < gs.length
  · rw [lfs_get hi, List.getElem?_map, List.getElem?_eq_getElem hi, dat_nil]
    rfl
  · rw [List.getElem?_eq_none (by rw [lfs_len]; omega), List.getElem?_eq_none (by simp; omega)]
/-- one write more: one file's bytes turn -/
theorem lfs_step {cs : List Int} {k0 : Nat} {gs : LG} {ws : List WL} {x : WL} {fs : List GF} (h : (fs.map fun g => (g.nm.data.toList, g.ds)) = lfs cs k0 gs ws) (v : Value) (hf : x.i < fs.length) :
    ((fs.set x.i ⟨fs[x.i].nm, v, wr fs[x.i].ds x.l.p (x.l.ds.take (cz cs (k0 + ws.length) x.l.ds.length))⟩).map fun g => (g.nm.data.toList, g.ds)) = lfs cs k0 gs (ws ++ [x]) := by
  have hl : fs.length = gs.length := by have := congrArg List.length h; simpa [lfs_len] using this
  have hg : ∀ i (hi : i < gs.length) (hf : i < fs.length), fs[i].nm.data.toList = gs[i].1 ∧ fs[i].ds = dat cs k0 i gs[i].2.lb ws := by
    intro i hi hf
    have h2 := congrArg (fun l => l[i]?) h
    simp only [List.getElem?_map, List.getElem?_eq_getElem hf, Option.map_some] at h2
    rw [lfs_get hi] at h2
    injection h2 with h2
    injection h2 with h3 h4
    exact ⟨h3, h4⟩
  apply List.ext_getElem?
  intro i
  by_cases hi : i < gs.length
  · rw [lfs_get hi, dat_snoc, List.getElem?_map, List.getElem?_set]
    have hfi : i < fs.length := by omega
    by_cases e : x.i = i
    · subst e
      rw [if_pos rfl, if_pos hf, if_pos rfl, ← (hg x.i hi hf).1, ← (hg x.i hi hf).2]
      rfl
    · rw [if_neg e, if_neg e, List.getElem?_eq_getElem hfi, ← (hg i hi hfi).1, ← (hg i hi hfi).2]
      rfl
  · rw [List.getElem?_eq_none (by simp; omega), List.getElem?_eq_none (by rw [lfs_len]; omega)]
theorem wls_mem {gs : LG} {x : WL} (h : x ∈ wls gs) : ∃ hi : x.i < gs.length, x.l ∈ gs[x.i].2.lo := by
  unfold wls at h
  obtain ⟨p, hp, hx⟩ := List.mem_flatMap.1 h
  obtain ⟨l, hl, rfl⟩ := List.mem_map.1 hx
  obtain ⟨q, j⟩ := p
  obtain ⟨h1, h2, h3⟩ := List.mem_zipIdx hp
  have hj : j < gs.length := by omega
  refine ⟨hj, ?_⟩
  have e : gs[j] = q := by
    have := h3
    simp at this
    exact this.symm
  show l ∈ gs[j].2.lo
  rw [e]
  exact hl
/-- what the last loop of leftFiles keeps -/
structure LE (W w : World) (N bn bc : Nat) (cs : List Int) (k0 j q : Nat) (gs : LG) (ws : List WL) (a5 : Option Addr) (c5 : Nat) (fs : List GF) (a6 : Option Addr) (c6 : Nat) : Prop where
  fr : Fr (fun k => k = bn) W w
  fl : FsO w N a5 fs c5
  ap : fs.Pairwise fun g h => ∀ k, g.v.ownBlock = some k → h.v.ownBlock ≠ some k
  fe : (fs.map fun g => (g.nm.data.toList, g.ds)) = lfs cs k0 gs (ws.take j)
  lw : w.ownsRow N 151 4 (.slice a6 q c6) q (wcs ws)
  ch : CH w bn bc cs (k0 + j)
theorem fcs_set : ∀ (fs : List GF) (i : Nat) (v : Value) (ds : List UInt8) (hi : i < fs.length), fcs (fs.set i ⟨fs[i].nm, v, ds⟩) = (fcs fs).set (i * 2 + 1) v
  | g :: r, 0, v, ds, _ => rfl
  | g :: r, i + 1, v, ds, hi => by
    have ih := fcs_set r i v ds (by simpa using hi)
    have e3 : (i + 1) * 2 + 1 = (i * 2 + 1) + 2 := by omega
    rw [e3]
    exact congrArg (fun l => Value.string g.nm :: g.v :: l) ih
theorem pw_get {fs : List GF} (h : fs.Pairwise fun g h => ∀ k, g.v.ownBlock = some k → h.v.ownBlock ≠ some k) {i j : Nat} (hi : i < fs.length) (hj : j < fs.length) (hne : i ≠ j) : ∀ k, fs[i].v.ownBlock = some k → fs[j].v.ownBlock ≠ some k := by
  rcases Nat.lt_or_ge i j with hl | hl
  · exact List.pairwise_iff_getElem.1 h i j hi hj hl
  · exact fun k hk e => List.pairwise_iff_getElem.1 h j i hj hi (by omega) k e hk
theorem LE.step {W w6 w7 w8 : World} {N bn bc k0 j q : Nat} {cs : List Int} {gs : LG} {ws : List WL} {a5 : Option Addr} {c5 : Nat} {fs : List GF} {a6 : Option Addr} {c6 : Nat} {v' : Value} (h : LE W w6 N bn bc cs k0 j q gs ws a5 c5 fs a6 c6) (hj : j < ws.length) (hf : ws[j].i < fs.length) (hW : W.heap.size ≤ N) (hn : bn < N) (hc : bc < N)
    (g7 : w6.grownBy w7 (some bn)) (ch7 : CH w7 bn bc cs (k0 + (j + 1))) (o8 : Ow w8 N v' (wr fs[ws[j].i].ds ws[j].l.p (ws[j].l.ds.take (cz cs (k0 + j) ws[j].l.ds.length)))) (g8 : w7.grownBy w8 fs[ws[j].i].v.ownBlock) (f8 : Frs w7 fs[ws[j].i].v v') :
    ∃ g, a5 = some ⟨g, 0, none⟩ ∧ LE W (w8.setCell ⟨g, ws[j].i * 2 + 1, none⟩ v') N bn bc cs k0 (j + 1) q gs ws a5 c5 (fs.set ws[j].i ⟨fs[ws[j].i].nm, v', wr fs[ws[j].i].ds ws[j].l.p (ws[j].l.ds.take (cz cs (k0 + j) ws[j].l.ds.length))⟩) a6 c6 := by
  have r7 : ∀ (e : TypeId) (m : Nat) (v : Value) (n2 : Nat) (xs : List Value), w6.ownsRow N e m v n2 xs → w7.ownsRow N e m v n2 xs := fun e m v n2 xs ho => World.ownsRow.kept ho g7 (.inr (fun e2 => by have := (World.ownsRow.lt ho _ e2).1; omega))
  have hdv := h.fl.dat fs[ws[j].i] (List.getElem_mem hf)
  have row7 := r7 _ _ _ _ _ h.fl.row
  have dv7 := r7 _ _ _ _ _ hdv
  have row8 := World.ownsRow.kept row7 g8 (own_off' row7 dv7 (by decide))
  have wr8 := World.ownsRow.kept (r7 _ _ _ _ _ h.lw) g8 (own_off' (r7 _ _ _ _ _ h.lw) dv7 (by decide))
  obtain ⟨g, rfl⟩ : ∃ g, a5 = some ⟨g, 0, none⟩ := by
    rcases h.fl.row.2 with ⟨_, h0⟩ | ⟨g, cap, cur, e1, _⟩
    · omega
    · injection e1 with e1
      exact ⟨g, e1⟩
  obtain ⟨s9, g9⟩ := World.ownsRow.stored row8 (ws[j].i * 2 + 1) v'
  have hgN : N ≤ g := (World.ownsRow.lt row8 g rfl).1
  refine ⟨g, rfl, ⟨?_, ⟨?_, fun x hx => ?_⟩, ?_, ?_, World.ownsRow.kept wr8 g9 (own_off' wr8 row8 (by decide)), (ch7.by g8 (fun k hk => (World.ownsRow.lt dv7 k hk).1) hn hc).by g9 (fun k hk => by have := Option.some.inj hk; omega) hn hc⟩⟩
  · exact ((h.fr.by g7 (fun k hk => .inl (Option.some.inj hk).symm)).by g8 (fun k hk => .inr (by have := (World.ownsRow.lt dv7 k hk).1; omega))).by g9 (fun k hk => .inr (by have := Option.some.inj hk; omega))
  · rw [List.length_set, fcs_set]
    exact s9
  · obtain ⟨i, hi, rfl⟩ := List.getElem_of_mem hx
    rw [List.length_set] at hi
    rw [List.getElem_set]
    by_cases e : ws[j].i = i
    · rw [if_pos e]
      exact World.ownsRow.kept o8 g9 (own_off' o8 row8 (by decide))
    · rw [if_neg e]
      have d6 := h.fl.dat fs[i] (List.getElem_mem hi)
      have d8 := World.ownsRow.kept (r7 _ _ _ _ _ d6) g8 (by
        cases hv : fs[i].v.ownBlock with
        | none => exact .inl rfl
        | some k => exact .inr (fun e2 => pw_get h.ap hi hf (fun e3 => e e3.symm) k hv e2.symm))
      exact World.ownsRow.kept d8 g9 (own_off' d8 row8 (by decide))
  · rw [List.pairwise_iff_getElem]
    intro i1 i2 h1 h2 hlt k hk e2
    rw [List.length_set] at h1 h2
    rw [List.getElem_set] at hk e2
    have old : ∀ i (hi : i < fs.length), fs[i].v.ownBlock = some k → k < w7.heap.size := fun i hi hk => (World.ownsRow.lt (r7 _ _ _ _ _ (h.fl.dat fs[i] (List.getElem_mem hi))) k hk).2
    by_cases e : ws[j].i = i1
    · rw [if_pos e] at hk
      rw [if_neg (by omega)] at e2
      rcases f8 k hk with h3 | h3
      · exact pw_get h.ap hf h2 (by omega) k h3 e2
      · have := old i2 h2 e2; omega
    · rw [if_neg e] at hk
      by_cases e' : ws[j].i = i2
      · rw [if_pos e'] at e2
        rcases f8 k e2 with h3 | h3
        · exact pw_get h.ap h1 hf (by omega) k hk h3
        · have := old i1 h1 hk; omega
      · rw [if_neg e'] at e2
        exact pw_get h.ap h1 h2 (by omega) k hk e2
  · have hlt : (ws.take j).length = j := by rw [List.length_take]; omega
    have h9 := lfs_step (x := ws[j]) h.fe v' hf
    rw [hlt] at h9
    rw [List.take_succ_eq_append_getElem hj]
    exact h9
end Go.Proofs.YtaibjeehjhlicaaGreatDoor
