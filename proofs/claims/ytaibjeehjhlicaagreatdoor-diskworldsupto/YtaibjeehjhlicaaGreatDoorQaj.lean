import Derived.Test.YtaibjeehjhlicaaGreatDoorQai
namespace Go.Proofs.YtaibjeehjhlicaaGreatDoor
open Go.RowKit Go.Shelf TextNum ModNum
theorem lsd_perm {a b : List FL} (h : a.Perm b) : lsd a = lsd b := List.Perm.sum_nat (h.map _)
/-- behind Create, Remove, Rename -/
def crS (s : DD) (nm : ByteArray) (F bp b2 : Nat) (vC vLo : Value) : DD := { s with nM := s.nM + 1, dm := s.dm.put (kS nm) (fd F), vC := vC, vLo := vLo, chs := s.chs ++ [⟨0, nm, nm, F, bp, b2⟩], nf := drp s.nf nm.data.toList ++ [(nm.data.toList, fnew F)], of := s.of ++ gone s.nf nm.data.toList }
def rmS (s : DD) (nm : ByteArray) (b2 : Nat) (vC vLo : Value) : DD := { s with dm := s.dm.del (kS nm), vC := vC, vLo := vLo, chs := s.chs ++ [⟨1, nm, nm, 0, b2, b2⟩], nf := drp s.nf nm.data.toList, of := s.of ++ gone s.nf nm.data.toList }
def rnS (s : DD) (nm tm : ByteArray) (f : FL) (b1 b2 : Nat) (vC vLo : Value) : DD := { s with nM := s.nM + 1, dm := (s.dm.del (kS nm)).put (kS tm) (fd f.b), vC := vC, vLo := vLo, chs := s.chs ++ [⟨2, nm, tm, 0, b1, b2⟩], nf := drp (drp s.nf nm.data.toList) tm.data.toList ++ [(tm.data.toList, f)], of := s.of ++ gone (drp s.nf nm.data.toList) tm.data.toList }
theorem crS_perm {s : DD} {nm : ByteArray} {F bp b2 : Nat} {vC vLo : Value} (nd : (s.nf.map (·.1)).Nodup) : (fls (crS s nm F bp b2 vC vLo)).Perm (fnew F :: fls s) := by
  have h := drp_perm (l := nm.data.toList) nd
  show ((drp s.nf nm.data.toList ++ [(nm.data.toList, fnew F)]).map (·.2) ++ (s.of ++ gone s.nf nm.data.toList)).Perm (fnew F :: (s.nf.map (·.2) ++ s.of))
  rw [List.map_append, List.map_cons, List.map_nil, List.append_assoc]
  refine (List.perm_middle (l₁ := (drp s.nf nm.data.toList).map (·.2)) (a := fnew F) (l₂ := s.of ++ gone s.nf nm.data.toList)).trans (List.Perm.cons _ ?_)
  refine (List.Perm.append_left _ List.perm_append_comm).trans ?_
  rw [← List.append_assoc]
  exact h.append_right _
theorem rmS_perm {s : DD} {nm : ByteArray} {b2 : Nat} {vC vLo : Value} (nd : (s.nf.map (·.1)).Nodup) : (fls (rmS s nm b2 vC vLo)).Perm (fls s) := by
  have h := drp_perm (l := nm.data.toList) nd
  show ((drp s.nf nm.data.toList).map (·.2) ++ (s.of ++ gone s.nf nm.data.toList)).Perm (s.nf.map (·.2) ++ s.of)
  refine (List.Perm.append_left _ List.perm_append_comm).trans ?_
  rw [← List.append_assoc]
  exact h.append_right _
theorem rnS_perm {s : DD} {nm tm : ByteArray} {f : FL} {b1 b2 : Nat} {vC vLo : Value} (nd : (s.nf.map (·.1)).Nodup) (hg : gone s.nf nm.data.toList = [f]) : (fls (rnS s nm tm f b1 b2 vC vLo)).Perm (fls s) := by
  have h := drp_perm (l := nm.data.toList) nd
  have h2 := drp_perm (l := tm.data.toList) (drp_nd (l := nm.data.toList) nd)
  rw [hg] at h
  show ((drp (drp s.nf nm.data.toList) tm.data.toList ++ [(tm.data.toList, f)]).map (·.2) ++ (s.of ++ gone (drp s.nf nm.data.toList) tm.data.toList)).Perm (s.nf.map (·.2) ++ s.of)
  rw [List.map_append, List.map_cons, List.map_nil, List.append_assoc]
  refine (List.perm_middle (l₁ := (drp (drp s.nf nm.data.toList) tm.data.toList).map (·.2)) (a := f) (l₂ := s.of ++ gone (drp s.nf nm.data.toList) tm.data.toList)).trans ?_
  refine (List.Perm.cons f (l₂ := (drp s.nf nm.data.toList).map (·.2) ++ s.of) ((List.Perm.append_left _ List.perm_append_comm).trans ?_)).trans ?_
  · rw [← List.append_assoc]
    exact h2.append_right _
  · refine List.Perm.trans ?_ (h.append_right _)
    rw [List.append_assoc]
    exact List.perm_middle.symm
theorem DOk.named? {w : World} {B D T : Nat} {s : DD} (h : DOk w B D T s) {l : List UInt8} : (l ∈ s.nf.map (·.1) ∧ Maps.has s.dm (.string l) = true) ∨ (l ∉ s.nf.map (·.1) ∧ Maps.has s.dm (.string l) = false) := by
  by_cases hl : l ∈ s.nf.map (·.1)
  · exact .inl ⟨hl, (h.isn.has l).2 hl⟩
  · exact .inr ⟨hl, by
      cases hh : Maps.has s.dm (.string l) with
      | false => rfl
      | true => exact absurd ((h.isn.has l).1 hh) hl⟩
theorem mem_fls_nf {s : DD} {l : List UInt8} {f : FL} (h : (l, f) ∈ s.nf) : f ∈ fls s := List.mem_append_left _ (List.mem_map.2 ⟨_, h, rfl⟩)
/-- the file of a name: its cells -/
theorem DOk.file {w : World} {B D T : Nat} {s : DD} (h : DOk w B D T s) {l : List UInt8} {f : FL} (hf : (l, f) ∈ s.nf) : ∃ an cn, f.vn = .slice an f.nb.length cn ∧ At w f.b 95 [.slice an f.nb.length cn, f.vl, f.vo] := by
  have hk := h.fok f (mem_fls_nf hf)
  obtain ⟨an, cn, hv, _⟩ := Ow.sb hk.now
  exact ⟨an, cn, hv, hv ▸ hk.file⟩
theorem snoc_row {w : World} {B e n : Nat} {v x : Value} {xs ys : List Value} (h : w.ownsRow B e 1 v (n + 1) (xs ++ [x])) (hy : ys = xs ++ [x]) (hn : ys.length = n + 1) : w.ownsRow B e 1 v ys.length ys := by
  rw [hn, hy]; exact h
set_option maxRecDepth 100000 in
theorem create1_dd {B D T N : Nat} {s : DD} (nm : ByteArray) (b1 b2 : Nat) (w : World) (h : DOk w B D T s) (hN : N ≤ w.heap.size) (hn : isNm nm.data.toList = true) (h1 : At w b1 24 [pv D]) (h2 : At w b2 9 [.string nm]) (hb2 : N ≤ b2) (hT : T + 1 ≤ 100000) :
    Calls Tryz.prog 52 #[pv b1, pv b2] w fun e w' => e = .returned (.tuple #[]) ∧ ∃ F bp vC vLo, DOk w' B D (T + 1) (crS s nm F bp b2 vC vLo) ∧ Nw N D s (crS s nm F bp b2 vC vLo) ∧ Fr (Sn D s) w w' ∧ w.heap.size ≤ F := by
  have hs : nm.size ≤ 255 := by rw [Go.Lib.size_eq]; exact nm_len hn
  have hnum := h.num
  have fin : ∀ (F bp : Nat) (vC vLo : Value) (w' : World) (q1 : At w' D 85 [.int .i64 (s.room : Int), .int .i64 ((usd (drp s.nf nm.data.toList) : Nat) : Int), .bool s.dead, .map (some s.M), .map (some s.L), vC, vLo, .int .i64 (lsd (fls s) : Int), .int .i64 (s.trn : Int), .int .i64 (s.acts : Int), .int .i64 (s.unt : Int), .int .i64 s.flt])
      (q2 : w'.ownsRow B 106 1 vC (s.chs.length + 1) (s.chs.map nav ++ [.func (.func 55) #[] #[pv bp, pv b2]])) (q3 : w'.ownsRow B 88 1 vLo (s.of ++ gone s.nf nm.data.toList).length ((s.of ++ gone s.nf nm.data.toList).map fun f => pv f.b)) (q4 : OM w' s.M (s.nM + 1) (s.dm.put (kS nm) (fd F)))
      (q5 : At w' F 95 [.slice none 0 0, .slice none 0 0, .slice none 0 0]) (q6 : w.heap.size ≤ F) (q7 : At w' bp 88 [pv F]) (q8 : w.heap.size ≤ bp) (q9 : Fr (Sn D s) w w') (q10 : Frs w s.vC vC) (q11 : Frs w s.vLo vLo) (q12 : vLo.ownBlock ≠ some bp),
      DOk w' B D (T + 1) (crS s nm F bp b2 vC vLo) ∧ Nw N D s (crS s nm F bp b2 vC vLo) := by
    intro F bp vC vLo w' q1 q2 q3 q4 q5 q6 q7 q8 q9 q10 q11 q12
    have P := crS_perm (s := s) (nm := nm) (F := F) (bp := bp) (b2 := b2) (vC := vC) (vLo := vLo) h.nd
    have eL : lsd (fls (crS s nm F bp b2 vC vLo)) = lsd (fls s) := by rw [lsd_perm P, lsd_cons]; simp
    have eU : usd (drp s.nf nm.data.toList ++ [(nm.data.toList, fnew F)]) = usd (drp s.nf nm.data.toList) := by rw [usd_append, usd_cons]; simp [usd]
    have hu := usd_drp (l := nm.data.toList) h.nd
    have b2' : At w' b2 9 [.string nm] := q9.at h2 (fun hk => by
      have t2 := h2.tg
      rcases hk with hk | hk | hk | hk
      · rw [hk, h.disk.tg] at t2; exact absurd t2 (by decide)
      · rw [hk, map_tg h.mnow] at t2; cases t2
      · rw [own_tg h.rowC hk] at t2; exact absurd t2 (by decide)
      · rw [own_tg h.rowL hk] at t2; exact absurd t2 (by decide))
    refine DOk.named hN h (crS s nm F bp b2 vC vLo) ⟨0, nm, nm, F, bp, b2⟩ q9 rfl rfl rfl rfl rfl rfl rfl rfl ?_ q4 (h.isn.put (World.ownsMap.isMap h.mnow) nm.data.toList (fnew F)) (drp_snoc_nd h.nd) ?_ ?_ q3 ⟨hs, hs, fun _ => q7, b2'⟩ ?_ q10 q11 ?_ ?_ ?_ (Nat.le_refl _) ?_ rfl (Nat.le_succ _) (Nat.le_of_eq eL) ?_ hT
    · show At w' D 85 [.int .i64 (s.room : Int), .int .i64 ((usd (drp s.nf nm.data.toList ++ [(nm.data.toList, fnew F)]) : Nat) : Int), .bool s.dead, .map (some s.M), .map (some s.L), vC, vLo, .int .i64 ((lsd (fls (crS s nm F bp b2 vC vLo)) : Nat) : Int), .int .i64 (s.trn : Int), .int .i64 (s.acts : Int), .int .i64 (s.unt : Int), .int .i64 s.flt]
      rw [eL, eU]
      exact q1
    · intro p hp
      rcases List.mem_append.1 hp with hp | hp
      · exact h.nms p (mem_drp.1 hp).1
      · obtain rfl := List.mem_singleton.1 hp; exact hn
    · show w'.ownsRow B 106 1 vC (s.chs ++ [(⟨0, nm, nm, F, bp, b2⟩ : NA)]).length ((s.chs ++ [(⟨0, nm, nm, F, bp, b2⟩ : NA)]).map nav)
      rw [List.map_append, List.length_append]
      exact q2
    · intro k hk e
      have hk : k ∈ [bp, b2] := hk
      rcases List.mem_cons.1 hk with rfl | hk
      · exact q12 e
      · obtain rfl := List.mem_singleton.1 hk
        have := own_tg q3 e
        rw [b2'.tg] at this; exact absurd this (by decide)
    · intro k hk
      have hk : k ∈ [bp, b2] := hk
      rcases List.mem_cons.1 hk with rfl | hk
      · omega
      · obtain rfl := List.mem_singleton.1 hk; exact hb2
    · intro f hf
      rcases List.mem_cons.1 (P.mem_iff.1 hf) with rfl | hf
      · exact .inr ⟨fnew_ok q5 (Nat.le_trans h.hB q6), rfl, q6, rfl, rfl, rfl⟩
      · exact .inl hf
    · refine (P.map (·.b)).nodup_iff.2 ?_
      rw [List.map_cons, List.nodup_cons]
      refine ⟨fun hm => ?_, h.fnd⟩
      obtain ⟨f, hf, e⟩ := List.mem_map.1 hm
      have := (h.fok f hf).lt f.b List.mem_cons_self
      have e : f.b = F := e
      omega
    · show (s.of ++ gone s.nf nm.data.toList).length ≤ s.of.length + 1
      rw [List.length_append]
      rcases h.named? (l := nm.data.toList) with ⟨hl, _⟩ | ⟨hl, _⟩
      · obtain ⟨xs, f, ys, e, _⟩ := nf_split hl h.nd
        have := h.nd
        rw [e] at this ⊢
        rw [(gone_split this).1]; simp
      · rw [gone_no hl]; simp
    · show usd (drp s.nf nm.data.toList ++ [(nm.data.toList, fnew F)]) ≤ usd s.nf
      rw [eU]; omega
  rcases h.named? (l := nm.data.toList) with ⟨hl, hh⟩ | ⟨hl, hh⟩
  · obtain ⟨xs, f, ys, e, _⟩ := nf_split hl h.nd
    have nd := h.nd
    rw [e] at nd
    obtain ⟨g1, g2⟩ := gone_split nd
    rw [← e] at g1 g2
    have hfm : (nm.data.toList, f) ∈ s.nf := by rw [e]; simp
    obtain ⟨an, cn, hv, hF⟩ := h.file hfm
    have hu := usd_drp (l := nm.data.toList) h.nd
    rw [g1] at hu
    simp only [List.map_cons, List.map_nil, List.sum_cons, List.sum_nil, Nat.add_zero] at hu
    have hsz := h.sz f (mem_fls_nf hfm)
    refine (Create1_yes B D s.M s.nM s.chs.length s.of.length (usd s.nf) nm s.dm _ _ _ s.vC s.vLo _ _ _ _ _ (s.chs.map nav) (s.of.map fun f => pv f.b) w b1 b2 hs (by simp only [maxLen]; omega) h.disk h.mnow h.rowC h.rowL h.hB (by omega) (by omega) f.b f.nb.length an cn f.vl f.vo hh (h.isn.val _ hfm) hF (by omega) (by omega) (by omega) h1 h2).mono ?_
    rintro e0 w' ⟨rfl, F, bp, vC, vLo, q1, q2, q3, q4, q5, q6, q7, q8, q9, q10, q11, q12⟩
    refine ⟨rfl, F, bp, vC, vLo, ?_⟩
    have q1' : (usd s.nf : Int) - (f.nb.length : Int) = ((usd (drp s.nf nm.data.toList) : Nat) : Int) := by omega
    rw [q1'] at q1
    have hfin := fin F bp vC vLo w' q1 q2 (by rw [g1, List.length_append, List.map_append]; exact q3) q4 q5 q6 q7 q8 q9 q10 q11 q12
    exact ⟨hfin.1, hfin.2, q9, q6⟩
  · have g1 := gone_no hl
    have g2 := drp_no hl
    refine (Create1_no B D s.M s.nM s.chs.length s.of.length (usd s.nf) nm s.dm _ _ _ s.vC s.vLo _ _ _ _ _ (s.chs.map nav) (s.of.map fun f => pv f.b) w b1 b2 hs (by simp only [maxLen]; omega) h.disk h.mnow h.rowC h.rowL h.hB (by omega) (by omega) hh h1 h2).mono ?_
    rintro e0 w' ⟨rfl, F, bp, vC, vLo, q1, q2, q3, q4, q5, q6, q7, q8, q9, q10, q11, q12⟩
    refine ⟨rfl, F, bp, vC, vLo, ?_⟩
    have hfin := fin F bp vC vLo w' (by rw [g2]; exact q1) q2 (by rw [g1, List.append_nil]; exact q3) q4 q5 q6 q7 q8 q9 q10 q11 q12
    exact ⟨hfin.1, hfin.2, q9, q6⟩
end Go.Proofs.YtaibjeehjhlicaaGreatDoor
namespace Go.Proofs.YtaibjeehjhlicaaGreatDoor
open Go.RowKit Go.Shelf TextNum ModNum
theorem DOk.box {w w' : World} {B D T b : Nat} {s : DD} {nm : ByteArray} (h : DOk w B D T s) (q9 : Fr (Sn D s) w w') (h2 : At w b 9 [.string nm]) : At w' b 9 [.string nm] := q9.at h2 (fun hk => by
  have t2 := h2.tg
  rcases hk with hk | hk | hk | hk
  · rw [hk, h.disk.tg] at t2; exact absurd t2 (by decide)
  · rw [hk, map_tg h.mnow] at t2; cases t2
  · rw [own_tg h.rowC hk] at t2; exact absurd t2 (by decide)
  · rw [own_tg h.rowL hk] at t2; exact absurd t2 (by decide))
theorem gone_le {nf : List (List UInt8 × FL)} {l : List UInt8} (nd : (nf.map (·.1)).Nodup) : (gone nf l).length ≤ 1 := by
  by_cases hl : l ∈ nf.map (·.1)
  · obtain ⟨xs, f, ys, e, _⟩ := nf_split hl nd
    rw [e] at nd ⊢
    rw [(gone_split nd).1]; simp
  · rw [gone_no hl]; simp
theorem gone_of {nf : List (List UInt8 × FL)} {l : List UInt8} {f : FL} (nd : (nf.map (·.1)).Nodup) (hf : (l, f) ∈ nf) : gone nf l = [f] := by
  have hl : l ∈ nf.map (·.1) := List.mem_map.2 ⟨_, hf, rfl⟩
  obtain ⟨xs, g, ys, e, _⟩ := nf_split hl nd
  rw [e] at nd
  have h1 := (gone_split nd).1
  rw [← e] at h1
  have h2 : f ∈ gone nf l := by
    unfold gone
    exact List.mem_map.2 ⟨(l, f), List.mem_filter.2 ⟨hf, by simp⟩, rfl⟩
  rw [h1] at h2 ⊢
  rw [List.mem_singleton.1 h2]
set_option maxRecDepth 100000 in
theorem remove1_dd {B D T N : Nat} {s : DD} (nm : ByteArray) (f : FL) (b1 b2 : Nat) (w : World) (h : DOk w B D T s) (hN : N ≤ w.heap.size) (hfm : (nm.data.toList, f) ∈ s.nf) (h1 : At w b1 24 [pv D]) (h2 : At w b2 9 [.string nm]) (hb2 : N ≤ b2) (hT : T + 1 ≤ 100000) :
    Calls Tryz.prog 99 #[pv b1, pv b2] w fun e w' => e = .returned (.tuple #[]) ∧ ∃ vC vLo, DOk w' B D (T + 1) (rmS s nm b2 vC vLo) ∧ Nw N D s (rmS s nm b2 vC vLo) ∧ Fr (Sn D s) w w' := by
  have hs : nm.size ≤ 255 := by rw [Go.Lib.size_eq]; exact nm_len (h.nms _ hfm)
  have hnum := h.num
  have g1 := gone_of h.nd hfm
  obtain ⟨an, cn, hv, hF⟩ := h.file hfm
  have hu := usd_drp (l := nm.data.toList) h.nd
  rw [g1] at hu
  simp only [List.map_cons, List.map_nil, List.sum_cons, List.sum_nil, Nat.add_zero] at hu
  have hsz := h.sz f (mem_fls_nf hfm)
  have hh : Maps.has s.dm (kS nm) = true := (h.isn.has _).2 (List.mem_map.2 ⟨_, hfm, rfl⟩)
  refine (Remove1_yes B D s.M s.nM s.chs.length s.of.length (usd s.nf) nm s.dm _ _ _ s.vC s.vLo _ _ _ _ _ (s.chs.map nav) (s.of.map fun f => pv f.b) w b1 b2 hs h.disk h.mnow h.rowC h.rowL h.hB (by omega) (by omega) f.b f.nb.length an cn f.vl f.vo hh (h.isn.val _ hfm) hF (by omega) (by omega) (by omega) h1 h2).mono ?_
  rintro e0 w' ⟨rfl, vC, vLo, q1, q2, q3, q4, q9, q10, q11⟩
  have P := rmS_perm (s := s) (nm := nm) (b2 := b2) (vC := vC) (vLo := vLo) h.nd
  have eL := lsd_perm P
  have q1' : (usd s.nf : Int) - (f.nb.length : Int) = ((usd (drp s.nf nm.data.toList) : Nat) : Int) := by omega
  rw [q1'] at q1
  have b2' := h.box q9 h2
  have hfin := DOk.named hN h (rmS s nm b2 vC vLo) ⟨1, nm, nm, 0, b2, b2⟩ q9 rfl rfl rfl rfl rfl rfl rfl rfl (by
    show At w' D 85 [.int .i64 (s.room : Int), .int .i64 ((usd (drp s.nf nm.data.toList) : Nat) : Int), .bool s.dead, .map (some s.M), .map (some s.L), vC, vLo, .int .i64 ((lsd (fls (rmS s nm b2 vC vLo)) : Nat) : Int), .int .i64 (s.trn : Int), .int .i64 (s.acts : Int), .int .i64 (s.unt : Int), .int .i64 s.flt]
    rw [eL]; exact q1) q4 (h.isn.del nm.data.toList) (drp_nd h.nd) (fun p hp => h.nms p (mem_drp.1 hp).1) (by
    show w'.ownsRow B 106 1 vC (s.chs ++ [(⟨1, nm, nm, 0, b2, b2⟩ : NA)]).length ((s.chs ++ [(⟨1, nm, nm, 0, b2, b2⟩ : NA)]).map nav)
    rw [List.map_append, List.length_append]
    exact q2) (by
    show w'.ownsRow B 88 1 vLo (s.of ++ gone s.nf nm.data.toList).length ((s.of ++ gone s.nf nm.data.toList).map fun f => pv f.b)
    rw [g1, List.length_append, List.map_append]; exact q3) ⟨hs, hs, fun e => absurd rfl e, b2'⟩ (fun k hk e => by
      have hk : k ∈ [b2] := hk
      obtain rfl := List.mem_singleton.1 hk
      have := own_tg q3 e
      rw [b2'.tg] at this; exact absurd this (by decide)) q10 q11 (fun k hk => by
      have hk : k ∈ [b2] := hk
      obtain rfl := List.mem_singleton.1 hk; exact hb2) (fun g hg => .inl (P.mem_iff.1 hg)) ((P.map (·.b)).nodup_iff.2 h.fnd) (Nat.le_succ _) (by
    show (s.of ++ gone s.nf nm.data.toList).length ≤ s.of.length + 1
    rw [List.length_append]; have := gone_le (l := nm.data.toList) h.nd; omega) rfl (Nat.le_succ _) (Nat.le_of_eq eL) (by
    show usd (drp s.nf nm.data.toList) ≤ usd s.nf
    omega) hT
  exact ⟨rfl, vC, vLo, hfin.1, hfin.2, q9⟩
set_option maxRecDepth 100000 in
theorem rename1_dd {B D T N : Nat} {s : DD} (nm tm : ByteArray) (f : FL) (b0 b1 b2 : Nat) (w : World) (h : DOk w B D T s) (hN : N ≤ w.heap.size) (hfm : (nm.data.toList, f) ∈ s.nf) (ht : isNm tm.data.toList = true) (h0 : At w b0 9 [.string nm]) (h1 : At w b1 9 [.string tm]) (h2 : At w b2 24 [pv D]) (hb0 : N ≤ b0) (hb1 : N ≤ b1) (hT : T + 1 ≤ 100000) :
    Calls Tryz.prog 59 #[pv b0, pv b1, pv b2] w fun e w' => e = .returned (.tuple #[]) ∧ ∃ vC vLo, DOk w' B D (T + 1) (rnS s nm tm f b0 b1 vC vLo) ∧ Nw N D s (rnS s nm tm f b0 b1 vC vLo) ∧ Fr (Sn D s) w w' := by
  have hs : nm.size ≤ 255 := by rw [Go.Lib.size_eq]; exact nm_len (h.nms _ hfm)
  have hts : tm.size ≤ 255 := by rw [Go.Lib.size_eq]; exact nm_len ht
  have hnum := h.num
  have g1 := gone_of h.nd hfm
  have nd1 := drp_nd (l := nm.data.toList) h.nd
  have hu := usd_drp (l := nm.data.toList) h.nd
  have hu2 := usd_drp (l := tm.data.toList) nd1
  rw [g1] at hu
  simp only [List.map_cons, List.map_nil, List.sum_cons, List.sum_nil, Nat.add_zero] at hu
  have hsz := h.sz f (mem_fls_nf hfm)
  have hbf := h.isn.val _ hfm
  have fin : ∀ (vC vLo : Value) (w' : World) (q1 : At w' D 85 [.int .i64 (s.room : Int), .int .i64 ((usd (drp (drp s.nf nm.data.toList) tm.data.toList) + f.nb.length : Nat) : Int), .bool s.dead, .map (some s.M), .map (some s.L), vC, vLo, .int .i64 (lsd (fls s) : Int), .int .i64 (s.trn : Int), .int .i64 (s.acts : Int), .int .i64 (s.unt : Int), .int .i64 s.flt])
      (q2 : w'.ownsRow B 106 1 vC (s.chs.length + 1) (s.chs.map nav ++ [.func (.func 60) #[] #[pv b0, pv b1]])) (q3 : w'.ownsRow B 88 1 vLo (s.of ++ gone (drp s.nf nm.data.toList) tm.data.toList).length ((s.of ++ gone (drp s.nf nm.data.toList) tm.data.toList).map fun f => pv f.b)) (q4 : OM w' s.M (s.nM + 1) ((s.dm.del (kS nm)).put (kS tm) (fd f.b)))
      (q9 : Fr (Sn D s) w w') (q10 : Frs w s.vC vC) (q11 : Frs w s.vLo vLo),
      DOk w' B D (T + 1) (rnS s nm tm f b0 b1 vC vLo) ∧ Nw N D s (rnS s nm tm f b0 b1 vC vLo) := by
    intro vC vLo w' q1 q2 q3 q4 q9 q10 q11
    have P := rnS_perm (s := s) (nm := nm) (tm := tm) (f := f) (b1 := b0) (b2 := b1) (vC := vC) (vLo := vLo) h.nd g1
    have eL := lsd_perm P
    have eU : usd (drp (drp s.nf nm.data.toList) tm.data.toList ++ [(tm.data.toList, f)]) = usd (drp (drp s.nf nm.data.toList) tm.data.toList) + f.nb.length := by rw [usd_append, usd_cons]; simp [usd]
    have b0' := h.box q9 h0
    have b1' := h.box q9 h1
    have hmd : Maps.IsMap (s.dm.del (kS nm)) := by
      obtain ⟨es, he⟩ := World.ownsMap.isMap h.mnow
      exact ⟨_, by rw [he]; rfl⟩
    refine DOk.named hN h (rnS s nm tm f b0 b1 vC vLo) ⟨2, nm, tm, 0, b0, b1⟩ q9 rfl rfl rfl rfl rfl rfl rfl rfl ?_ q4 ((h.isn.del nm.data.toList).put hmd tm.data.toList f) (drp_snoc_nd nd1) ?_ ?_ q3 ⟨hs, hts, fun _ => b0', b1'⟩ ?_ q10 q11 ?_ (fun g hg => .inl (P.mem_iff.1 hg)) ((P.map (·.b)).nodup_iff.2 h.fnd) (Nat.le_refl _) ?_ rfl (Nat.le_succ _) (Nat.le_of_eq eL) ?_ hT
    · show At w' D 85 [.int .i64 (s.room : Int), .int .i64 ((usd (drp (drp s.nf nm.data.toList) tm.data.toList ++ [(tm.data.toList, f)]) : Nat) : Int), .bool s.dead, .map (some s.M), .map (some s.L), vC, vLo, .int .i64 ((lsd (fls (rnS s nm tm f b0 b1 vC vLo)) : Nat) : Int), .int .i64 (s.trn : Int), .int .i64 (s.acts : Int), .int .i64 (s.unt : Int), .int .i64 s.flt]
      rw [eL, eU]
      exact q1
    · intro p hp
      rcases List.mem_append.1 hp with hp | hp
      · exact h.nms p (mem_drp.1 (mem_drp.1 hp).1).1
      · obtain rfl := List.mem_singleton.1 hp; exact ht
    · show w'.ownsRow B 106 1 vC (s.chs ++ [(⟨2, nm, tm, 0, b0, b1⟩ : NA)]).length ((s.chs ++ [(⟨2, nm, tm, 0, b0, b1⟩ : NA)]).map nav)
      rw [List.map_append, List.length_append]
      exact q2
    · intro k hk e
      have hk : k ∈ [b0, b1] := hk
      have := own_tg q3 e
      rcases List.mem_cons.1 hk with rfl | hk
      · rw [b0'.tg] at this; exact absurd this (by decide)
      · obtain rfl := List.mem_singleton.1 hk
        rw [b1'.tg] at this; exact absurd this (by decide)
    · intro k hk
      have hk : k ∈ [b0, b1] := hk
      rcases List.mem_cons.1 hk with rfl | hk
      · exact hb0
      · obtain rfl := List.mem_singleton.1 hk; exact hb1
    · show (s.of ++ gone (drp s.nf nm.data.toList) tm.data.toList).length ≤ s.of.length + 1
      rw [List.length_append]; have := gone_le (l := tm.data.toList) nd1; omega
    · show usd (drp (drp s.nf nm.data.toList) tm.data.toList ++ [(tm.data.toList, f)]) ≤ usd s.nf
      rw [eU]; omega
  by_cases hst : nm = tm
  · subst hst
    have hl : nm.data.toList ∉ (drp s.nf nm.data.toList).map (·.1) := fun hm => by
      obtain ⟨p, hp, e⟩ := List.mem_map.1 hm
      exact (mem_drp.1 hp).2 e
    have g3 := gone_no hl
    have d3 := drp_no hl
    refine (Rename1_same B D s.M s.nM s.chs.length s.of.length (usd s.nf) nm s.dm _ _ _ s.vC s.vLo _ _ _ _ _ (s.chs.map nav) (s.of.map fun f => pv f.b) w b0 b1 b2 f.b hs (by simp only [maxLen]; omega) h.disk h.mnow h.rowC h.rowL h.hB (by omega) (by omega) hbf h0 h1 h2).mono ?_
    rintro e0 w' ⟨rfl, vC, vLo, q1, q2, q3, q4, q9, q10, q11⟩
    have hfin := fin vC vLo w' (by rw [d3, hu]; exact q1) q2 (by rw [g3, List.append_nil]; exact q3) q4 q9 q10 q11
    exact ⟨rfl, vC, vLo, hfin.1, hfin.2, q9⟩
  · have hne : nm.data.toList ≠ tm.data.toList := fun e => hst (by
      obtain ⟨⟨a⟩⟩ := nm
      obtain ⟨⟨b⟩⟩ := tm
      have e : a = b := e
      rw [e])
    have hsb : (nm.toList == tm.toList) = false := by
      rw [beq_eq_false_iff_ne]
      intro e
      rw [ByteArray.toList_eq, ByteArray.toList_eq] at e
      exact hne e
    rcases h.named? (l := tm.data.toList) with ⟨hl, hh⟩ | ⟨hl, hh⟩
    · have hl1 : tm.data.toList ∈ (drp s.nf nm.data.toList).map (·.1) := by
        obtain ⟨p, hp, e⟩ := List.mem_map.1 hl
        exact List.mem_map.2 ⟨p, mem_drp.2 ⟨hp, fun e2 => hne (e2.symm.trans e)⟩, e⟩
      obtain ⟨xs, g, ys, e, _⟩ := nf_split hl1 nd1
      have hgm1 : (tm.data.toList, g) ∈ drp s.nf nm.data.toList := by rw [e]; simp
      have hgm := (mem_drp.1 hgm1).1
      have g2 := gone_of nd1 hgm1
      rw [g2] at hu2
      simp only [List.map_cons, List.map_nil, List.sum_cons, List.sum_nil, Nat.add_zero] at hu2
      obtain ⟨an, cn, hv, hF⟩ := h.file hgm
      have hsg := h.sz g (mem_fls_nf hgm)
      refine (Rename1_yes B D s.M s.nM s.chs.length s.of.length (usd s.nf) nm s.dm _ _ _ s.vC s.vLo _ _ _ _ _ (s.chs.map nav) (s.of.map fun f => pv f.b) w b0 b1 b2 f.b tm hts hsb hs (by simp only [maxLen]; omega) h.disk h.mnow h.rowC h.rowL h.hB (by omega) (by omega) g.b g.nb.length an cn g.vl g.vo hh (h.isn.val _ hgm) hF (by omega) (by omega) (by omega) hbf h0 h1 h2).mono ?_
      rintro e0 w' ⟨rfl, vC, vLo, q1, q2, q3, q4, q9, q10, q11⟩
      have q1' : (usd s.nf : Int) - (g.nb.length : Int) = ((usd (drp (drp s.nf nm.data.toList) tm.data.toList) + f.nb.length : Nat) : Int) := by omega
      rw [q1'] at q1
      have hfin := fin vC vLo w' q1 q2 (by rw [g2, List.length_append, List.map_append]; exact q3) q4 q9 q10 q11
      exact ⟨rfl, vC, vLo, hfin.1, hfin.2, q9⟩
    · have hl1 : tm.data.toList ∉ (drp s.nf nm.data.toList).map (·.1) := fun hm => by
        obtain ⟨p, hp, e⟩ := List.mem_map.1 hm
        exact hl (List.mem_map.2 ⟨p, (mem_drp.1 hp).1, e⟩)
      have g2 := gone_no hl1
      have d2 := drp_no hl1
      refine (Rename1_no B D s.M s.nM s.chs.length s.of.length (usd s.nf) nm s.dm _ _ _ s.vC s.vLo _ _ _ _ _ (s.chs.map nav) (s.of.map fun f => pv f.b) w b0 b1 b2 f.b tm hts hsb hs (by simp only [maxLen]; omega) h.disk h.mnow h.rowC h.rowL h.hB (by omega) (by omega) hh hbf h0 h1 h2).mono ?_
      rintro e0 w' ⟨rfl, vC, vLo, q1, q2, q3, q4, q9, q10, q11⟩
      have hfin := fin vC vLo w' (by rw [d2, hu]; exact q1) q2 (by rw [g2, List.append_nil]; exact q3) q4 q9 q10 q11
      exact ⟨rfl, vC, vLo, hfin.1, hfin.2, q9⟩
end Go.Proofs.YtaibjeehjhlicaaGreatDoor
