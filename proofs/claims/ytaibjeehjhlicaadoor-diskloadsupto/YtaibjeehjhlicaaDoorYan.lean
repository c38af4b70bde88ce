import Derived.Test.YtaibjeehjhlicaaDoorYam
namespace Go.Proofs.YtaibjeehjhlicaaDoor
open Go.RowKit Go.Shelf TextNum ModNum
/-- only the disk's own cells -/
theorem DOk.dout {w : World} {B D T : Nat} {s : DD} (h : DOk w B D T s) {k : Nat} (hk : own D s k) (hne : k ≠ D) : ∀ t, tagOf w k = some t → t ≠ 58 := by
  intro t ht e
  subst e
  rcases hk with hk | rfl | rfl | hk | hk | ⟨f, hf, hk⟩ | ⟨c, hc, hk⟩
  · exact hne hk
  · rw [map_tg h.mnow] at ht; cases ht
  · rw [map_tg h.mlas] at ht; cases ht
  · rw [own_tg h.rowC hk] at ht; exact absurd ht (by decide)
  · rw [own_tg h.rowL hk] at ht; exact absurd ht (by decide)
  · exact (h.fok f hf).out hk ht (by decide)
  · exact (h.chk c hc).out hk ht (by decide)
theorem DOk.acted {w w1 : World} {B D T : Nat} {s : DD} (h : DOk w B D T s) (g : w.grownBy w1 (some D)) (a u : Nat) (fl : Int) (dd : Bool) (hd : At w1 D 58 (dcl { s with acts := a, unt := u, flt := fl, dead := dd })) (ha : a ≤ T + 1) (hT : T + 1 ≤ 100000) :
    DOk w1 B D (T + 1) { s with acts := a, unt := u, flt := fl, dead := dd } ∧ Fr (fun k => k = D) w w1 := by
  have fr : Fr (fun k => k = D) w w1 := (Fr.refl (fun k => k = D) w).by g (fun b hb => .inl (Option.some.inj hb).symm)
  have tD := h.disk.tg
  obtain ⟨n1, n2, n3, n4, n5, n6, n7, n8, n9, n10, n11⟩ := h.num
  refine ⟨⟨ml_fr h.ml fr h.hB h.low.1 (fun e => by have := h.low; have e : 0 = D := e; omega), h.low, Nat.le_trans h.hB fr.size, hd, fr.map h.mnow (fun e => ?_), h.isn, h.nd, h.nms, fr.map h.mlas (fun e => ?_), h.isl, h.neq, fr.own h.rowC (fun b hb e => ?_), fr.own h.rowL (fun b hb e => ?_), fun c hc => (h.chk c hc).fr fr (fun b hb e => ?_), h.lap, fun f hf => (h.fok f hf).fr fr (fun b hb e => ?_), h.fnd, h.apart, fun f hf => ?_, ?_⟩, fr⟩
  · have := map_tg h.mnow; have e : s.M = D := e; rw [e, tD] at this; cases this
  · have := map_tg h.mlas; have e : s.L = D := e; rw [e, tD] at this; cases this
  · have e : b = D := e
    subst e
    have := own_tg h.rowC hb; rw [tD] at this; exact absurd this (by decide)
  · have e : b = D := e
    subst e
    have := own_tg h.rowL hb; rw [tD] at this; exact absurd this (by decide)
  · have e : b = D := e
    subst e
    exact (h.chk c hc).out hb tD (by decide)
  · have e : b = D := e
    subst e
    exact (h.fok f hf).out hb tD (by decide)
  · have := h.sz f hf; omega
  · show s.chs.length ≤ T + 1 ∧ s.of.length ≤ T + 1 ∧ s.trn ≤ T + 1 ∧ a ≤ T + 1 ∧ lsd (fls s) ≤ T + 1 ∧ s.nM ≤ s.n0 + (T + 1) ∧ s.nL ≤ s.n0 + (T + 1) ∧ T + 1 ≤ 100000 ∧ s.n0 ≤ 1000000 ∧ s.room ≤ 1099511627776 ∧ usd s.nf ≤ 1099511627776
    omega
def gone (nf : List (List UInt8 × FL)) (l : List UInt8) : List FL := (nf.filter fun p => decide (p.1 = l)).map (·.2)
theorem gone_no {nf : List (List UInt8 × FL)} {l : List UInt8} (h : l ∉ nf.map (·.1)) : gone nf l = [] := by
  unfold gone
  rw [List.filter_eq_nil_iff.2, List.map_nil]
  intro p hp e
  exact h (by rw [← of_decide_eq_true e]; exact List.mem_map_of_mem hp)
theorem gone_split {xs ys : List (List UInt8 × FL)} {l : List UInt8} {f : FL} (nd : ((xs ++ (l, f) :: ys).map (·.1)).Nodup) : gone (xs ++ (l, f) :: ys) l = [f] ∧ drp (xs ++ (l, f) :: ys) l = xs ++ ys := by
  rw [List.map_append, List.map_cons, List.nodup_append, List.nodup_cons] at nd
  have hx : l ∉ xs.map (·.1) := fun h => nd.2.2 l h l List.mem_cons_self rfl
  have hy : l ∉ ys.map (·.1) := nd.2.1.1
  constructor
  · have h1 := gone_no hx
    have h2 := gone_no hy
    unfold gone at h1 h2 ⊢
    rw [List.filter_append, List.map_append, h1, List.filter_cons, if_pos (by simp), List.map_cons, h2]
    rfl
  · have h1 := drp_no hx
    have h2 := drp_no hy
    unfold drp at h1 h2 ⊢
    rw [List.filter_append, h1, List.filter_cons, if_neg (by simp), h2]
theorem usd_append (a b : List (List UInt8 × FL)) : usd (a ++ b) = usd a + usd b := by simp [usd]
theorem usd_cons (p : List UInt8 × FL) (b : List (List UInt8 × FL)) : usd (p :: b) = p.2.nb.length + usd b := by simp [usd]
theorem lsd_append (a b : List FL) : lsd (a ++ b) = lsd a + lsd b := by simp [lsd]
theorem lsd_cons (p : FL) (b : List FL) : lsd (p :: b) = p.lo.length + lsd b := by simp [lsd]
theorem usd_drp {nf : List (List UInt8 × FL)} {l : List UInt8} (nd : (nf.map (·.1)).Nodup) : usd (drp nf l) + ((gone nf l).map fun f => f.nb.length).sum = usd nf := by
  by_cases h : l ∈ nf.map (·.1)
  · obtain ⟨xs, f, ys, rfl, _⟩ := nf_split h nd
    obtain ⟨h1, h2⟩ := gone_split nd
    rw [h1, h2, usd_append, usd_append, usd_cons]
    simp only [List.map_cons, List.map_nil, List.sum_cons, List.sum_nil]
    omega
  · rw [drp_no h, gone_no h]; simp
theorem lsd_drp {nf : List (List UInt8 × FL)} {l : List UInt8} (nd : (nf.map (·.1)).Nodup) : lsd ((drp nf l).map (·.2)) + lsd (gone nf l) = lsd (nf.map (·.2)) := by
  by_cases h : l ∈ nf.map (·.1)
  · obtain ⟨xs, f, ys, rfl, _⟩ := nf_split h nd
    obtain ⟨h1, h2⟩ := gone_split nd
    rw [h1, h2, List.map_append, List.map_append, List.map_cons, lsd_append, lsd_append, lsd_cons, lsd_cons]
    simp only [lsd, List.map_nil, List.sum_nil]
    omega
  · rw [drp_no h, gone_no h]; simp [lsd]
theorem MN.put {dm : DataW Unit} {nf : List (List UInt8 × FL)} (h : MN dm nf) (hm : Maps.IsMap dm) (l : List UInt8) (f : FL) : MN (dm.put (.string l) (fd f.b)) (drp nf l ++ [(l, f)]) := by
  refine ⟨fun x => ?_, fun p hp z => ?_⟩
  · by_cases hx : x = l
    · subst hx
      rw [Maps.has_put_same hm (by simp [WideAt.IsKeyLit])]
      simp
    · rw [Maps.has_put_other (str_ne hx), h.has x]
      simp only [List.mem_map, List.mem_append, List.mem_singleton, mem_drp]
      constructor
      · rintro ⟨p, hp, rfl⟩
        exact ⟨p, .inl ⟨hp, hx⟩, rfl⟩
      · rintro ⟨p, ⟨hp, _⟩ | rfl, e⟩
        · exact ⟨p, hp, e⟩
        · exact absurd e.symm hx
  · rcases List.mem_append.1 hp with hp | hp
    · rw [mem_drp] at hp
      rw [Maps.atKey_put_other (str_ne hp.2)]
      exact h.val p hp.1 z
    · obtain rfl := List.mem_singleton.1 hp
      exact Maps.atKey_put_same hm (by simp [WideAt.IsKeyLit]) _ _
theorem MN.del {dm : DataW Unit} {nf : List (List UInt8 × FL)} (h : MN dm nf) (l : List UInt8) : MN (dm.del (.string l)) (drp nf l) := by
  refine ⟨fun x => ?_, fun p hp z => ?_⟩
  · by_cases hx : x = l
    · subst hx
      rw [Maps.has_del_same]
      simp only [List.mem_map, mem_drp, Bool.false_eq_true, false_iff]
      rintro ⟨p, ⟨_, hp⟩, e⟩
      exact hp e
    · rw [Maps.has_del_other (str_ne hx), h.has x]
      simp only [List.mem_map, mem_drp]
      constructor
      · rintro ⟨p, hp, rfl⟩
        exact ⟨p, ⟨hp, hx⟩, rfl⟩
      · rintro ⟨p, ⟨hp, _⟩, e⟩
        exact ⟨p, hp, e⟩
  · rw [mem_drp] at hp
    rw [Maps.atKey_del_other (str_ne hp.2)]
    exact h.val p hp.1 z
theorem drp_nd {nf : List (List UInt8 × FL)} {l : List UInt8} (nd : (nf.map (·.1)).Nodup) : ((drp nf l).map (·.1)).Nodup := by
  unfold drp
  exact List.Nodup.sublist (List.Sublist.map _ List.filter_sublist) nd
theorem drp_snoc_nd {nf : List (List UInt8 × FL)} {l : List UInt8} {f : FL} (nd : (nf.map (·.1)).Nodup) : ((drp nf l ++ [(l, f)]).map (·.1)).Nodup := by
  rw [List.map_append, List.nodup_append]
  refine ⟨drp_nd nd, by simp, fun a ha b hb e => ?_⟩
  obtain ⟨p, hp, rfl⟩ := List.mem_map.1 ha
  rw [mem_drp] at hp
  simp only [List.map_cons, List.map_nil, List.mem_singleton] at hb
  exact hp.2 (e.trans hb)
/-- what is dropped and what is gone are all -/
theorem drp_perm {nf : List (List UInt8 × FL)} {l : List UInt8} (nd : (nf.map (·.1)).Nodup) : ((drp nf l).map (·.2) ++ gone nf l).Perm (nf.map (·.2)) := by
  by_cases h : l ∈ nf.map (·.1)
  · obtain ⟨xs, f, ys, rfl, _⟩ := nf_split h nd
    obtain ⟨h1, h2⟩ := gone_split nd
    rw [h1, h2, List.map_append, List.map_append, List.map_cons]
    rw [List.append_assoc]
    exact List.Perm.append_left _ (List.perm_append_singleton f _)
  · rw [drp_no h, gone_no h]; simp
end Go.Proofs.YtaibjeehjhlicaaDoor
