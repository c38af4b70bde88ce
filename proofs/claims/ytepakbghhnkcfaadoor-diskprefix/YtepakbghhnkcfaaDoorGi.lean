import Derived.Test.YtepakbghhnkcfaaDoorGh
namespace Go.Proofs.YtepakbghhnkcfaaDoor
open Go.RowKit Go.Shelf TextNum ModNum
theorem lsd_perm {a b : List FL} (h : a.Perm b) : lsd a = lsd b := List.Perm.sum_nat (h.map _)
/-- behind Create, Remove, Rename -/
def crS (s : DD) (nm : ByteArray) (F bp b2 : Nat) (vC vLo : Value) : DD := { s with nM := s.nM + 1, dm := s.dm.put (kS nm) (fd F), vC := vC, vLo := vLo, chs := s.chs ++ [⟨0, nm, nm, F, bp, b2⟩], nf := drp s.nf nm.data.toList ++ [(nm.data.toList, fnew F)], of := s.of ++ gone s.nf nm.data.toList }
def rmS (s : DD) (nm : ByteArray) (b2 : Nat) (vC vLo : Value) : DD := { s with dm := s.dm.del (kS nm), vC := vC, vLo := vLo, chs := s.chs ++ [⟨1, nm, nm, 0, b2, b2⟩], nf := drp s.nf nm.data.toList, of := s.of ++ gone s.nf nm.data.toList }
def rnS (s : DD) (nm tm : ByteArray) (f : FL) (b1 b2 : Nat) (vC vLo : Value) : DD := { s with nM := s.nM + 1, dm := (s.dm.del (kS nm)).put (kS tm) (fd f.b), vC := vC, vLo := vLo, chs := s.chs ++ [⟨2, nm, tm, 0, b1, b2⟩], nf := drp (drp s.nf nm.data.toList) tm.data.toList ++ [(tm.data.toList, f)], of := s.of ++ gone (drp s.nf nm.data.toList) tm.data.toList }
theorem crS_perm {s : DD} {nm : ByteArray} {F bp b2 : Nat} {vC vLo : Value} (nd : (s.nf.map (·.1)).Nodup) : (fls (crS s nm F bp b2 vC vLo)).Perm (fnew F :: fls s) := by
  have h := drp_perm (l := nm.data.toList) nd
  show ((drp s.nf nm.data.toList ++ [(nm.data.toList, fnew F)]).map (·.2) ++ (s.of ++ gone s.nf nm.data.toList)).Perm (fnew F :: (s.nf.map (·.2) ++ s.of))
  rw [List.map_append, List.map_cons, List.map_nil, List.append_assoc]
  refine (List.perm_middle (l₁ := (drp s.nf nm.data.toList).map (·.2)) (a := fnew F) (l₂ := s.of ++ gone s.nf nm.data.toList)).trans (List.Perm.cons _ ?_)
  refine (List.Perm.append_left _ List.perm_append_comm).trans ?_
  rw [← List.append_assoc]
  exact h.append_right _
theorem rmS_perm {s : DD} {nm : ByteArray} {b2 : Nat} {vC vLo : Value} (nd : (s.nf.map (·.1)).Nodup) : (fls (rmS s nm b2 vC vLo)).Perm (fls s) := by
  have h := drp_perm (l := nm.data.toList) nd
  show ((drp s.nf nm.data.toList).map (·.2) ++ (s.of ++ gone s.nf nm.data.toList)).Perm (s.nf.map (·.2) ++ s.of)
  refine (List.Perm.append_left _ List.perm_append_comm).trans ?_
  rw [← List.append_assoc]
  exact h.append_right _
theorem rnS_perm {s : DD} {nm tm : ByteArray} {f : FL} {b1 b2 : Nat} {vC vLo : Value} (nd : (s.nf.map (·.1)).Nodup) (hg : gone s.nf nm.data.toList = [f]) : (fls (rnS s nm tm f b1 b2 vC vLo)).Perm (fls s) := by
  have h := drp_perm (l := nm.data.toList) nd
  have h2 := drp_perm (l := tm.data.toList) (drp_nd (l := nm.data.toList) nd)
  rw [hg] at h
  show ((drp (drp s.nf nm.data.toList) tm.data.toList ++ [(tm.data.toList, f)]).map (·.2) ++ (s.of ++ gone (drp s.nf nm.data.toList) tm.data.toList)).Perm (s.nf.map (·.2) ++ s.of)
  rw [List.map_append, List.map_cons, List.map_nil, List.append_assoc]
  refine (List.perm_middle (l₁ := (drp (drp s.nf nm.data.toList) tm.data.toList).map (·.2)) (a := f) (l₂ := s.of ++ gone (drp s.nf nm.data.toList) tm.data.toList)).trans ?_
  refine (List.Perm.cons f (l₂ := (drp s.nf nm.data.toList).map (·.2) ++ s.of) ((List.Perm.append_left _ List.perm_append_comm).trans ?_)).trans ?_
  · rw [← List.append_assoc]
    exact h2.append_right _
  · refine List.Perm.trans ?_ (h.append_right _)
    rw [List.append_assoc]
    exact List.perm_middle.symm
theorem DOk.named? {w : World} {B D T : Nat} {s : DD} (h : DOk w B D T s) {l : List UInt8} : (l ∈ s.nf.map (·.1) ∧ Maps.has s.dm (.string l) = true) ∨ (l ∉ s.nf.map (·.1) ∧ Maps.has s.dm (.string l) = false) := by
  by_cases hl : l ∈ s.nf.map (·.1)
  · exact .inl ⟨hl, (h.isn.has l).2 hl⟩
  · exact .inr ⟨hl, by
      cases hh : Maps.has s.dm (.string l) with
      | false => rfl
      | true => exact absurd ((h.isn.has l).1 hh) hl⟩
theorem mem_fls_nf {s : DD} {l : List UInt8} {f : FL} (h : (l, f) ∈ s.nf) : f ∈ fls s := List.mem_append_left _ (List.mem_map.2 ⟨_, h, rfl⟩)
/-- the file of a name: its cells -/
theorem DOk.file {w : World} {B D T : Nat} {s : DD} (h : DOk w B D T s) {l : List UInt8} {f : FL} (hf : (l, f) ∈ s.nf) : ∃ an cn, f.vn = .slice an f.nb.length cn ∧ At w f.b 69 [.slice an f.nb.length cn, f.vl, f.vo] := by
  have hk := h.fok f (mem_fls_nf hf)
  obtain ⟨an, cn, hv, _⟩ := Ow.sb hk.now
  exact ⟨an, cn, hv, hv ▸ hk.file⟩
theorem snoc_row {w : World} {B e n : Nat} {v x : Value} {xs ys : List Value} (h : w.ownsRow B e 1 v (n + 1) (xs ++ [x])) (hy : ys = xs ++ [x]) (hn : ys.length = n + 1) : w.ownsRow B e 1 v ys.length ys := by
  rw [hn, hy]; exact h
set_option maxRecDepth 100000 in
theorem create1_dd {B D T N : Nat} {s : DD} (nm : ByteArray) (b1 b2 : Nat) (w : World) (h : DOk w B D T s) (hN : N ≤ w.heap.size) (hn : isNm nm.data.toList = true) (h1 : At w b1 24 [pv D]) (h2 : At w b2 9 [.string nm]) (hb2 : N ≤ b2) (hT : T + 1 ≤ 100000) :
    Calls Tryd.prog 29 #[pv b1, pv b2] w fun e w' => e = .returned (.tuple #[]) ∧ ∃ F bp vC vLo, DOk w' B D (T + 1) (crS s nm F bp b2 vC vLo) ∧ Nw N D s (crS s nm F bp b2 vC vLo) ∧ Fr (Sn D s) w w' ∧ w.heap.size ≤ F := by
  have hs : nm.size ≤ 255 := by rw [Go.Lib.size_eq]; exact nm_len hn
  have hnum := h.num
  have fin : ∀ (F bp : Nat) (vC vLo : Value) (w' : World) (q1 : At w' D 82 [.int .i64 (s.room : Int), .int .i64 ((usd (drp s.nf nm.data.toList) : Nat) : Int), .bool s.dead, .map (some s.M), .map (some s.L), vC, vLo, .int .i64 (lsd (fls s) : Int), .int .i64 (s.trn : Int), .int .i64 (s.acts : Int), .int .i64 (s.unt : Int), .int .i64 s.flt])
      (q2 : w'.ownsRow B 95 1 vC (s.chs.length + 1) (s.chs.map nav ++ [.func (.func 32) #[] #[pv bp, pv b2]])) (q3 : w'.ownsRow B 66 1 vLo (s.of ++ gone s.nf nm.data.toList).length ((s.of ++ gone s.nf nm.data.toList).map fun f => pv f.b)) (q4 : OM w' s.M (s.nM + 1) (s.dm.put (kS nm) (fd F)))
      (q5 : At w' F 69 [.slice none 0 0, .slice none 0 0, .slice none 0 0]) (q6 : w.heap.size ≤ F) (q7 : At w' bp 66 [pv F]) (q8 : w.heap.size ≤ bp) (q9 : Fr (Sn D s) w w') (q10 : Frs w s.vC vC) (q11 : Frs w s.vLo vLo) (q12 : vLo.ownBlock ≠ some bp),
      DOk w' B D (T + 1) (crS s nm F bp b2 vC vLo) ∧ Nw N D s (crS s nm F bp b2 vC vLo) := by
    intro F bp vC vLo w' q1 q2 q3 q4 q5 q6 q7 q8 q9 q10 q11 q12
    have P := crS_perm (s := s) (nm := nm) (F := F) (bp := bp) (b2 := b2) (vC := vC) (vLo := vLo) h.nd
    have eL : lsd (fls (crS s nm F bp b2 vC vLo)) = lsd (fls s) := by rw [lsd_perm P, lsd_cons]; simp
    have eU : usd (drp s.nf nm.data.toList ++ [(nm.data.toList, fnew F)]) = usd (drp s.nf nm.data.toList) := by rw [usd_append, usd_cons]; simp [usd]
    have hu := usd_drp (l := nm.data.toList) h.nd
    have b2' : At w' b2 9 [.string nm] := q9.at h2 (fun hk => by
      have t2 := h2.tg
      rcases hk with hk | hk | hk | hk
      · rw [hk, h.disk.tg] at t2; exact absurd t2 (by decide)
      · rw [hk, map_tg h.mnow] at t2; cases t2
      · rw [own_tg h.rowC hk] at t2; exact absurd t2 (by decide)
      · rw [own_tg h.rowL hk] at t2; exact absurd t2 (by decide))
    refine DOk.named hN h (crS s nm F bp b2 vC vLo) ⟨0, nm, nm, F, bp, b2⟩ q9 rfl rfl rfl rfl rfl rfl rfl rfl ?_ q4 (h.isn.put (World.ownsMap.isMap h.mnow) nm.data.toList (fnew F)) (drp_snoc_nd h.nd) ?_ ?_ q3 ⟨hs, hs, fun _ => q7, b2'⟩ ?_ q10 q11 ?_ ?_ ?_ (Nat.le_refl _) ?_ rfl (Nat.le_succ _) (Nat.le_of_eq eL) ?_ hT
    · show At w' D 82 [.int .i64 (s.room : Int), .int .i64 ((usd (drp s.nf nm.data.toList ++ [(nm.data.toList, fnew F)]) : Nat) : Int), .bool s.dead, .map (some s.M), .map (some s.L), vC, vLo, .int .i64 ((lsd (fls (crS s nm F bp b2 vC vLo)) : Nat) : Int), .int .i64 (s.trn : Int), .int .i64 (s.acts : Int), .int .i64 (s.unt : Int), .int .i64 s.flt]
      rw [eL, eU]
      exact q1
    · intro p hp
      rcases List.mem_append.1 hp with hp | hp
      · exact h.nms p (mem_drp.1 hp).1
      · obtain rfl := List.mem_singleton.1 hp; exact hn
    · show w'.ownsRow B 95 1 vC (s.chs ++ [(⟨0, nm, nm, F, bp, b2⟩ : NA)]).length ((s.chs ++ [(⟨0, nm, nm, F, bp, b2⟩ : NA)]).map nav)
      rw [List.map_append, List.length_append]
      exact q2
    · intro k hk e
      have hk : k ∈ [bp, b2] := hk
      rcases List.mem_cons.1 hk with rfl | hk
      · exact q12 e
      · obtain rfl := List.mem_singleton.1 hk
        have := own_tg q3 e
        rw [b2'.tg] at this; exact absurd this (by decide)
    · intro k hk
      have hk : k ∈ [bp, b2] := hk
      rcases List.mem_cons.1 hk with rfl | hk
      · omega
      · obtain rfl := List.mem_singleton.1 hk; exact hb2
    · intro f hf
      rcases List.mem_cons.1 (P.mem_iff.1 hf) with rfl | hf
      · exact .inr ⟨fnew_ok q5 (Nat.le_trans h.hB q6), rfl, q6, rfl, rfl, rfl⟩
      · exact .inl hf
    · refine (P.map (·.b)).nodup_iff.2 ?_
      rw [List.map_cons, List.nodup_cons]
      refine ⟨fun hm => ?_, h.fnd⟩
      obtain ⟨f, hf, e⟩ := List.mem_map.1 hm
      have := (h.fok f hf).lt f.b List.mem_cons_self
      have e : f.b = F := e
      omega
    · show (s.of ++ gone s.nf nm.data.toList).length ≤ s.of.length + 1
      rw [List.length_append]
      rcases h.named? (l := nm.data.toList) with ⟨hl, _⟩ | ⟨hl, _⟩
      · obtain ⟨xs, f, ys, e, _⟩ := nf_split hl h.nd
        have := h.nd
        rw [e] at this ⊢
        rw [(gone_split this).1]; simp
      · rw [gone_no hl]; simp
    · show usd (drp s.nf nm.data.toList ++ [(nm.data.toList, fnew F)]) ≤ usd s.nf
      rw [eU]; omega
  rcases h.named? (l := nm.data.toList) with ⟨hl, hh⟩ | ⟨hl, hh⟩
  · obtain ⟨xs, f, ys, e, _⟩ := nf_split hl h.nd
    have nd := h.nd
    rw [e] at nd
    obtain ⟨g1, g2⟩ := gone_split nd
    rw [← e] at g1 g2
    have hfm : (nm.data.toList, f) ∈ s.nf := by rw [e]; simp
    obtain ⟨an, cn, hv, hF⟩ := h.file hfm
    have hu := usd_drp (l := nm.data.toList) h.nd
    rw [g1] at hu
    simp only [List.map_cons, List.map_nil, List.sum_cons, List.sum_nil, Nat.add_zero] at hu
    have hsz := h.sz f (mem_fls_nf hfm)
    refine (Create1_yes B D s.M s.nM s.chs.length s.of.length (usd s.nf) nm s.dm _ _ _ s.vC s.vLo _ _ _ _ _ (s.chs.map nav) (s.of.map fun f => pv f.b) w b1 b2 hs (by simp only [maxLen]; omega) h.disk h.mnow h.rowC h.rowL h.hB (by omega) (by omega) f.b f.nb.length an cn f.vl f.vo hh (h.isn.val _ hfm) hF (by omega) (by omega) (by omega) h1 h2).mono ?_
    rintro e0 w' ⟨rfl, F, bp, vC, vLo, q1, q2, q3, q4, q5, q6, q7, q8, q9, q10, q11, q12⟩
    refine ⟨rfl, F, bp, vC, vLo, ?_⟩
    have q1' : (usd s.nf : Int) - (f.nb.length : Int) = ((usd (drp s.nf nm.data.toList) : Nat) : Int) := by omega
    rw [q1'] at q1
    have hfin := fin F bp vC vLo w' q1 q2 (by rw [g1, List.length_append, List.map_append]; exact q3) q4 q5 q6 q7 q8 q9 q10 q11 q12
    exact ⟨hfin.1, hfin.2, q9, q6⟩
  · have g1 := gone_no hl
    have g2 := drp_no hl
    refine (Create1_no B D s.M s.nM s.chs.length s.of.length (usd s.nf) nm s.dm _ _ _ s.vC s.vLo _ _ _ _ _ (s.chs.map nav) (s.of.map fun f => pv f.b) w b1 b2 hs (by simp only [maxLen]; omega) h.disk h.mnow h.rowC h.rowL h.hB (by omega) (by omega) hh h1 h2).mono ?_
    rintro e0 w' ⟨rfl, F, bp, vC, vLo, q1, q2, q3, q4, q5, q6, q7, q8, q9, q10, q11, q12⟩
    refine ⟨rfl, F, bp, vC, vLo, ?_⟩
    have hfin := fin F bp vC vLo w' (by rw [g2]; exact q1) q2 (by rw [g1, List.append_nil]; exact q3) q4 q5 q6 q7 q8 q9 q10 q11 q12
    exact ⟨hfin.1, hfin.2, q9, q6⟩
end Go.Proofs.YtepakbghhnkcfaaDoor
