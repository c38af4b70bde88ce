import Derived.Test.YtepakbghhnkcfaaDoorHf
namespace Go.Proofs.YtepakbghhnkcfaaDoor
open Go.RowKit Go.Shelf TextNum ModNum
/-- a list of ints that is read -/
def Sint (w : World) (v : Value) (cs : List Int) : Prop :=
  ∃ a c, v = .slice a cs.length c ∧ cs.length ≤ c ∧ ∀ i (h : i < cs.length), ∃ b off, a = some ⟨b, off, none⟩ ∧ w.cell? ⟨b, off + i, none⟩ = some (.int .i64 cs[i])
theorem Sint.up {w w' : World} {v : Value} {cs : List Int} (h : Sint w v cs) (k : Up w w') : Sint w' v cs := by
  obtain ⟨a, c, e, h1, h2⟩ := h
  exact ⟨a, c, e, h1, fun i hi => by obtain ⟨b, off, e1, e2⟩ := h2 i hi; exact ⟨b, off, e1, k.cell e2⟩⟩
/-- the choice number k, of 0 to most -/
def cz (cs : List Int) (k most : Nat) : Nat := if h : k < cs.length then (cs[k] % ((most : Int) + 1)).toNat else 0
theorem cz_le (cs : List Int) (k most : Nat) : cz cs k most ≤ most := by
  unfold cz
  split
  · have := Int.emod_lt_of_pos cs[k] (show (0 : Int) < (most : Int) + 1 by omega)
    have := Int.emod_nonneg cs[k] (show (most : Int) + 1 ≠ 0 by omega)
    omega
  · omega
/-- the chooser behind k calls -/
structure CH (w : World) (bn bc : Nat) (cs : List Int) (k : Nat) : Prop where
  nx : At w bn 3 [.int .i64 ((min k cs.length : Nat) : Int)]
  cv : ∃ v, At w bc 42 [v] ∧ Sint w v cs ∧ v.ownBlock ≠ some bn ∧ ∀ g, v.ownBlock = some g → g < bc
theorem CH.up {w w' : World} {bn bc k : Nat} {cs : List Int} (h : CH w bn bc cs k) (u : Up w w') : CH w' bn bc cs k := by
  obtain ⟨v, h1, h2, h3⟩ := h.cv
  exact ⟨h.nx.up u, v, h1.up u, h2.up u, h3⟩
theorem Sint.by {w w' : World} {v : Value} {cs : List Int} {row : Option Nat} (h : Sint w v cs) (g : w.grownBy w' row) (hr : ∀ k, v.ownBlock = some k → row ≠ some k) : Sint w' v cs := by
  obtain ⟨a, c, rfl, h1, h2⟩ := h
  refine ⟨a, c, rfl, h1, fun i hi => ?_⟩
  obtain ⟨b, off, rfl, h3⟩ := h2 i hi
  exact ⟨b, off, rfl, g.cell h3 (fun e => hr b rfl e.symm)⟩
theorem CH.by {w w' : World} {bn bc k N : Nat} {cs : List Int} {row : Option Nat} (h : CH w bn bc cs k) (g : w.grownBy w' row) (hr : ∀ k, row = some k → N ≤ k) (hn : bn < N) (hc : bc < N) : CH w' bn bc cs k := by
  obtain ⟨v, h1, h2, h3, h4⟩ := h.cv
  refine ⟨h.nx.by g (fun e => by have := hr _ e; omega), v, h1.by g (fun e => by have := hr _ e; omega), h2.by g (fun k hk e => by have := hr _ e; have := h4 k hk; omega), h3, h4⟩
abbrev chv (bn bc : Nat) : Value := .func (.func 78) #[] #[pv bn, pv bc]
theorem tmod_emod (c m : Int) (hm : 0 < m) : (if c.tmod m < 0 then c.tmod m + m else c.tmod m) = c % m := by
  have h1 := Int.emod_nonneg c (show m ≠ 0 by omega)
  have h2 := Int.emod_lt_of_pos c hm
  rw [Int.tmod_eq_emod]
  have hs : (m.natAbs : Int) = m := by omega
  split <;> (split <;> omega)
set_option maxRecDepth 100000 in
set_option maxHeartbeats 2000000 in
theorem chooser1_walk (bn bc k most : Nat) (cs : List Int) (w : World) (h : CH w bn bc cs k) (hm : most ≤ 1099511627776) (hl : cs.length ≤ 1152921504606846976) :
    Calls Tryd.prog 78 #[.int .i64 (most : Int), pv bn, pv bc] w fun e w' => e = .returned (.int .i64 ((cz cs k most : Nat) : Int)) ∧ CH w' bn bc cs (k + 1) ∧ w.grownBy w' (some bn) := by
  have c1 := h.nx.cell (i := 0) rfl
  have t1 := h.nx.thaw 0
  obtain ⟨v, hv, hS, hne, hlow⟩ := h.cv
  have HLow := Hid.of hlow
  have HCv := Hid.of hv
  have HS := Hid.of hS
  have HNx := Hid.of h.nx
  have HNe := Hid.of hne
  obtain ⟨a, c, rfl, hc, hcell⟩ := hS
  have c2 := hv.cell (i := 0) rfl
  have HCell := Hid.of hcell
  clear h hv hcell hne hlow
  by_cases hk : k < cs.length
  · have hmin : min k cs.length = k := by omega
    rw [hmin] at c1 HNx
    obtain ⟨b, off, rfl, k3⟩ := HCell.out k hk
    have hke : ((k : Int) == (cs.length : Int)) = false := by rw [beq_eq_false_iff_ne]; omega
    have hkz : (k : Int) < (cs.length : Int) := by omega
    have hcz : (cs.length : Int) ≤ (c : Int) := by omega
    have HR := Hid.of (show ((cz cs k most : Nat) : Int) = (if cs[k].tmod ((most : Int) + 1) < 0 then cs[k].tmod ((most : Int) + 1) + ((most : Int) + 1) else cs[k].tmod ((most : Int) + 1)) by
      rw [tmod_emod _ _ (by omega)]
      unfold cz
      rw [dif_pos hk]
      have := Int.emod_nonneg cs[k] (show (most : Int) + 1 ≠ 0 by omega)
      omega)
    have hA1 := HNx.out.set 0 (.int .i64 ((k : Int) + 1))
    have hg1 := grown_at w bn 0 (.int .i64 ((k : Int) + 1))
    have HP := Hid.of (show CH (w.setCell ⟨bn, 0, none⟩ (.int .i64 ((k : Int) + 1))) bn bc cs (k + 1) ∧ w.grownBy (w.setCell ⟨bn, 0, none⟩ (.int .i64 ((k : Int) + 1))) (some bn) from ⟨⟨by
        rw [show min (k + 1) cs.length = k + 1 by omega]
        exact hA1, _, HCv.out.by hg1 (fun e => HNx.out.ne HCv.out (by decide) (Option.some.inj e)), by
        obtain ⟨a2, c2, e2, h1, h2⟩ := HS.out
        refine ⟨a2, c2, e2, h1, fun i hi => ?_⟩
        obtain ⟨b2, off2, e3, h3⟩ := h2 i hi
        refine ⟨b2, off2, e3, hg1.cell h3 (fun e => HNe.out ?_)⟩
        rw [e2, e3]
        exact e, HNe.out, HLow.out⟩, hg1⟩)
    obtain ⟨x, hx⟩ : ∃ x, cs[k] = x := ⟨_, rfl⟩
    rw [hx] at k3 HR
    have hb1 := Int.tmod_lt_of_pos x (show (0 : Int) < (most : Int) + 1 by omega)
    have hb2 : -((most : Int) + 1) < x.tmod ((most : Int) + 1) := by
      have h3 := Int.tmod_lt_of_pos (-x) (show (0 : Int) < (most : Int) + 1 by omega)
      rw [Int.neg_tmod] at h3
      omega
    have hm0 : (((most : Int) + 1) == 0) = false := by rw [beq_eq_false_iff_ne]; omega
    generalize hr : x.tmod ((most : Int) + 1) = r at *
    clear hA1 hg1 hx
    by_cases hneg : r < 0
    · rw [if_pos hneg] at HR
      go_enter Tryd.func78, Tryd.ntmps78
      go_wp2
      go_ret
      rw [HR.out]
      exact ⟨by first | rfl | (congr 3; omega), HP.out⟩
    · rw [if_neg hneg] at HR
      go_enter Tryd.func78, Tryd.ntmps78
      go_wp2
      go_ret
      rw [HR.out]
      exact ⟨rfl, HP.out⟩
  · have hmin : min k cs.length = cs.length := by omega
    rw [hmin] at c1 HNx
    have HR := Hid.of (show cz cs k most = 0 from dif_neg hk)
    have HP := Hid.of (show CH w bn bc cs (k + 1) from ⟨by rw [show min (k + 1) cs.length = cs.length by omega]; exact HNx.out, _, HCv.out, HS.out, HNe.out, HLow.out⟩)
    go_enter Tryd.func78, Tryd.ntmps78
    go_wp2
    go_ret
    rw [HR.out]
    exact ⟨rfl, HP.out, grown_refl _ _⟩
set_option maxRecDepth 100000 in
set_option maxHeartbeats 1000000 in
theorem chooser_walk (v : Value) (cs : List Int) (w : World) (h : Sint w v cs) (hv : ∀ g, v.ownBlock = some g → g < w.heap.size) : Calls Tryd.prog 63 #[v] w fun e w' => ∃ bn bc, e = .returned (chv bn bc) ∧ CH w' bn bc cs 0 ∧ w.heap.size ≤ bn ∧ w.heap.size ≤ bc ∧ Up w w' := by
  have HS := Hid.of h
  have HV := Hid.of hv
  obtain ⟨a, c, rfl, _⟩ := h
  have HB := Hid.of (at_new w 42 [.slice a cs.length c])
  have hb := at_new (w.alloc (.cells [.slice a cs.length c].toArray 42)) 3 [.int .i64 0]
  rw [alloc_size] at hb
  have HN := Hid.of hb
  have HU := Hid.of (((Up.refl w).alloc (.cells [.slice a cs.length c].toArray 42)).alloc (.cells [.int .i64 0].toArray 3))
  have HB2 := Hid.of (HB.out.up ((Up.refl _).alloc (.cells [.int .i64 0].toArray 3)))
  clear hb hv
  go_enter Tryd.func63, Tryd.ntmps63
  go_wp2
  go_ret
  exact ⟨w.heap.size + 1, w.heap.size, rfl, ⟨by rw [Nat.zero_min]; exact HN.out, _, HB2.out, HS.out.up HU.out, (fun e => by have := HV.out _ e; omega), fun g hg => HV.out g hg⟩, by omega, by omega, HU.out⟩
end Go.Proofs.YtepakbghhnkcfaaDoor
