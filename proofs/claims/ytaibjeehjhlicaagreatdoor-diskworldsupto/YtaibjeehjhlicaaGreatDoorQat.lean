import Derived.Test.YtaibjeehjhlicaaGreatDoorQbo
import Derived.Test.YtaibjeehjhlicaaGreatDoorQal
namespace Go.Proofs.YtaibjeehjhlicaaGreatDoor
open Go.RowKit Go.Shelf TextNum ModNum
/-- all that the names' acts may leave names these files, each once -/
structure CN (chs : List NA) (las : NM) (P : Nat → Prop) : Prop where
  fit : NFit chs las
  mem : ∀ k l b, nrun (chs.take k) las l = some b → P b ∧ isNm l = true
  inj : ∀ k l l' b, nrun (chs.take k) las l = some b → nrun (chs.take k) las l' = some b → l = l'
theorem CN.mono {chs : List NA} {las : NM} {P Q : Nat → Prop} (h : CN chs las P) (hq : ∀ b, P b → Q b) : CN chs las Q :=
  ⟨h.fit, fun k l b e => ⟨hq b (h.mem k l b e).1, (h.mem k l b e).2⟩, h.inj⟩
theorem CN.memAll {chs : List NA} {las : NM} {P : Nat → Prop} (h : CN chs las P) {l : List UInt8} {b : Nat} (e : nrun chs las l = some b) : P b ∧ isNm l = true := h.mem chs.length l b (by rw [List.take_length]; exact e)
theorem CN.injAll {chs : List NA} {las : NM} {P : Nat → Prop} (h : CN chs las P) {l l' : List UInt8} {b : Nat} (e : nrun chs las l = some b) (e' : nrun chs las l' = some b) : l = l' := h.inj chs.length l l' b (by rw [List.take_length]; exact e) (by rw [List.take_length]; exact e')
theorem CN.snoc {chs : List NA} {las : NM} {P : Nat → Prop} (h : CN chs las P) {c : NA} (hf : nfit c (nrun chs las)) (h1 : ∀ l b, nac c (nrun chs las) l = some b → P b ∧ isNm l = true)
    (h2 : ∀ l l' b, nac c (nrun chs las) l = some b → nac c (nrun chs las) l' = some b → l = l') : CN (chs ++ [c]) las P := by
  have ht : ∀ k, nrun ((chs ++ [c]).take k) las = nrun (chs.take k) las ∨ nrun ((chs ++ [c]).take k) las = nac c (nrun chs las) := fun k => by
    rcases Nat.lt_or_ge chs.length k with hk | hk
    · right
      rw [List.take_of_length_le (by rw [List.length_append, List.length_singleton]; omega), nrun_snoc]
    · left
      rw [List.take_append_of_le_length hk]
  refine ⟨h.fit.snoc hf, fun k l b e => ?_, fun k l l' b e e' => ?_⟩
  · rcases ht k with hk | hk
    · rw [hk] at e; exact h.mem k l b e
    · rw [hk] at e; exact h1 l b e
  · rcases ht k with hk | hk
    · rw [hk] at e e'; exact h.inj k l l' b e e'
    · rw [hk] at e e'; exact h2 l l' b e e'
theorem nput_some {m : NM} {l x : List UInt8} {b c : Nat} (h : nput m l b x = some c) : (x = l ∧ c = b) ∨ (x ≠ l ∧ m x = some c) := by
  unfold nput at h
  split at h
  · rename_i e
    exact .inl ⟨e, (Option.some.inj h).symm⟩
  · rename_i e
    exact .inr ⟨e, h⟩
theorem ndel_some {m : NM} {l x : List UInt8} {c : Nat} (h : ndel m l x = some c) : x ≠ l ∧ m x = some c := by
  unfold ndel at h
  split at h
  · cases h
  · rename_i e
    exact ⟨e, h⟩
theorem CN.create {chs : List NA} {las : NM} {P : Nat → Prop} (h : CN chs las P) {nm : ByteArray} {F b1 b2 : Nat} (hn : isNm nm.data.toList = true) (hF : ¬ P F) : CN (chs ++ [⟨0, nm, nm, F, b1, b2⟩]) las (fun b => b = F ∨ P b) := by
  refine (h.mono (fun b hb => .inr hb)).snoc (.inl rfl) (fun l b e => ?_) (fun l l' b e e' => ?_)
  · rcases nput_some (show nput (nrun chs las) nm.data.toList F l = some b from e) with ⟨rfl, rfl⟩ | ⟨_, e⟩
    · exact ⟨.inl rfl, hn⟩
    · exact ⟨.inr (h.memAll e).1, (h.memAll e).2⟩
  · rcases nput_some (show nput (nrun chs las) nm.data.toList F l = some b from e) with ⟨rfl, rfl⟩ | ⟨_, e⟩
    · rcases nput_some (show nput (nrun chs las) nm.data.toList b l' = some b from e') with ⟨h1, _⟩ | ⟨_, e'⟩
      · exact h1.symm
      · exact absurd (h.memAll e').1 hF
    · rcases nput_some (show nput (nrun chs las) nm.data.toList F l' = some b from e') with ⟨_, h2⟩ | ⟨_, e'⟩
      · exact absurd (h.memAll e).1 (by rw [h2]; exact hF)
      · exact h.injAll e e'
theorem CN.remove {chs : List NA} {las : NM} {P : Nat → Prop} (h : CN chs las P) {nm : ByteArray} {b1 b2 : Nat} : CN (chs ++ [⟨1, nm, nm, 0, b1, b2⟩]) las P := by
  refine h.snoc (.inr (.inl rfl)) (fun l b e => ?_) (fun l l' b e e' => ?_)
  · exact h.memAll (ndel_some (show ndel (nrun chs las) nm.data.toList l = some b from e)).2
  · exact h.injAll (ndel_some (show ndel (nrun chs las) nm.data.toList l = some b from e)).2 (ndel_some (show ndel (nrun chs las) nm.data.toList l' = some b from e')).2
theorem nac_rename {m : NM} {nm tm : ByteArray} {f b b1 b2 : Nat} (h : m nm.data.toList = some b) : nac ⟨2, nm, tm, f, b1, b2⟩ m = nput (ndel m nm.data.toList) tm.data.toList b := by
  unfold nac
  rw [if_neg (by simp), if_neg (by simp)]
  simp only [h]
theorem CN.rename {chs : List NA} {las : NM} {P : Nat → Prop} (h : CN chs las P) {nm tm : ByteArray} {b b1 b2 : Nat} (hb : nrun chs las nm.data.toList = some b) (ht : isNm tm.data.toList = true) : CN (chs ++ [⟨2, nm, tm, 0, b1, b2⟩]) las P := by
  refine h.snoc (.inr (.inr ⟨rfl, by rw [hb]; rfl⟩)) (fun l c e => ?_) (fun l l' c e e' => ?_)
  · rw [nac_rename hb] at e
    rcases nput_some e with ⟨rfl, rfl⟩ | ⟨_, e⟩
    · exact ⟨(h.memAll hb).1, ht⟩
    · exact h.memAll (ndel_some e).2
  · rw [nac_rename hb] at e e'
    rcases nput_some e with ⟨rfl, rfl⟩ | ⟨_, e⟩
    · rcases nput_some e' with ⟨h1, _⟩ | ⟨_, e'⟩
      · exact h1.symm
      · exact absurd (h.injAll (ndel_some e').2 hb) (ndel_some e').1
    · rcases nput_some e' with ⟨_, h2⟩ | ⟨_, e'⟩
      · rw [h2] at e
        exact absurd (h.injAll (ndel_some e).2 hb) (ndel_some e).1
      · exact h.injAll (ndel_some e).2 (ndel_some e').2
theorem nmOf_snoc {nf : List (List UInt8 × FL)} {l : List UInt8} {f : FL} (h : l ∉ nf.map (·.1)) : nmOf (nf ++ [(l, f)]) = nput (nmOf nf) l f.b := by
  funext x
  unfold nput
  by_cases hx : x = l
  · subst hx
    rw [if_pos rfl]
    unfold nmOf
    rw [List.find?_append, List.find?_eq_none.2 (fun p hp e => h (List.mem_map.2 ⟨p, hp, by simpa using e⟩))]
    simp
  · rw [if_neg hx]
    unfold nmOf
    rw [List.find?_append]
    have : ([(l, f)].find? fun p => p.1 == x) = none := by simp [Ne.symm hx]
    rw [this, Option.or_none]
theorem nmOf_drp (nf : List (List UInt8 × FL)) (l : List UInt8) : nmOf (drp nf l) = ndel (nmOf nf) l := by
  funext x
  unfold ndel
  by_cases hx : x = l
  · subst hx
    rw [if_pos rfl]
    refine nmOf_no (fun h => ?_)
    obtain ⟨p, hp, e⟩ := List.mem_map.1 h
    exact (mem_drp.1 hp).2 e
  · rw [if_neg hx]
    unfold nmOf drp
    rw [List.find?_filter]
    congr 2
    funext p
    by_cases hp : p.1 = x
    · simp [hp, hx]
    · simp [hp]
theorem nput_ndel (m : NM) (l : List UInt8) (b : Nat) : nput (ndel m l) l b = nput m l b := by
  funext x
  unfold nput ndel
  split <;> simp_all
theorem nmOf_put (nf : List (List UInt8 × FL)) (l : List UInt8) (f : FL) : nmOf (drp nf l ++ [(l, f)]) = nput (nmOf nf) l f.b := by
  rw [nmOf_snoc (fun h => by obtain ⟨p, hp, e⟩ := List.mem_map.1 h; exact (mem_drp.1 hp).2 e), nmOf_drp, nput_ndel]
/-- the names of now are what the names' acts leave -/
structure CW (s : DD) : Prop where
  cn : CN s.chs s.las (fun b => ∃ f ∈ fls s, f.b = b)
  now : nrun s.chs s.las = nmOf s.nf
theorem CW.cr {s : DD} (h : CW s) (nd : (s.nf.map (·.1)).Nodup) {nm : ByteArray} {F bp b2 : Nat} {vC vLo : Value} (hn : isNm nm.data.toList = true) (hF : ∀ f ∈ fls s, f.b ≠ F) : CW (crS s nm F bp b2 vC vLo) := by
  have P := crS_perm (s := s) (nm := nm) (F := F) (bp := bp) (b2 := b2) (vC := vC) (vLo := vLo) nd
  refine ⟨(h.cn.create hn (fun ⟨f, hf, e⟩ => hF f hf e)).mono (fun b hb => ?_), ?_⟩
  · rcases hb with rfl | ⟨f, hf, e⟩
    · exact ⟨fnew b, P.mem_iff.2 List.mem_cons_self, rfl⟩
    · exact ⟨f, P.mem_iff.2 (List.mem_cons_of_mem _ hf), e⟩
  · show nrun (s.chs ++ [⟨0, nm, nm, F, bp, b2⟩]) s.las = nmOf (drp s.nf nm.data.toList ++ [(nm.data.toList, fnew F)])
    rw [nrun_snoc, nmOf_put, h.now]
    rfl
theorem CW.rm {s : DD} (h : CW s) (nd : (s.nf.map (·.1)).Nodup) {nm : ByteArray} {b2 : Nat} {vC vLo : Value} : CW (rmS s nm b2 vC vLo) := by
  have P := rmS_perm (s := s) (nm := nm) (b2 := b2) (vC := vC) (vLo := vLo) nd
  refine ⟨(h.cn.remove).mono (fun b ⟨f, hf, e⟩ => ⟨f, P.mem_iff.2 hf, e⟩), ?_⟩
  show nrun (s.chs ++ [⟨1, nm, nm, 0, b2, b2⟩]) s.las = nmOf (drp s.nf nm.data.toList)
  rw [nrun_snoc, nmOf_drp, h.now]
  rfl
theorem CW.rn {s : DD} (h : CW s) (nd : (s.nf.map (·.1)).Nodup) {nm tm : ByteArray} {f : FL} {b1 b2 : Nat} {vC vLo : Value} (hg : gone s.nf nm.data.toList = [f]) (hf : (nm.data.toList, f) ∈ s.nf) (ht : isNm tm.data.toList = true) : CW (rnS s nm tm f b1 b2 vC vLo) := by
  have P := rnS_perm (s := s) (nm := nm) (tm := tm) (f := f) (b1 := b1) (b2 := b2) (vC := vC) (vLo := vLo) nd hg
  have hb : nrun s.chs s.las nm.data.toList = some f.b := by rw [h.now]; exact nmOf_mem nd hf
  refine ⟨(h.cn.rename hb ht).mono (fun b ⟨f, hf, e⟩ => ⟨f, P.mem_iff.2 hf, e⟩), ?_⟩
  show nrun (s.chs ++ [⟨2, nm, tm, 0, b1, b2⟩]) s.las = nmOf (drp (drp s.nf nm.data.toList) tm.data.toList ++ [(tm.data.toList, f)])
  rw [nrun_snoc, nac_rename hb, nmOf_put, nmOf_drp, h.now]
theorem nmOf_rpl (nf : List (List UInt8 × FL)) (b : Nat) (f' : FL) (hb : f'.b = b) : nmOf (rpl nf b f') = nmOf nf := by
  funext x
  unfold nmOf rpl
  rw [List.find?_map]
  have e : ((fun p : List UInt8 × FL => p.1 == x) ∘ fun p => if p.2.b = b then (p.1, f') else p) = fun p => p.1 == x := by
    funext p
    simp only [Function.comp]
    split <;> rfl
  rw [e]
  cases nf.find? fun p => p.1 == x with
  | none => rfl
  | some p =>
    simp only [Option.map_some]
    split
    · rename_i h1
      rw [h1]
      exact congrArg some hb
    · rfl
theorem CW.fl {s : DD} (h : CW s) {b : Nat} {f' : FL} {t : Nat} (hb : f'.b = b) : CW (flS s b f' t) := by
  refine ⟨h.cn.mono (fun c ⟨f, hf, e⟩ => ?_), h.now.trans (nmOf_rpl s.nf b f' hb).symm⟩
  rcases List.mem_append.1 hf with hf | hf
  · obtain ⟨p, hp, rfl⟩ := List.mem_map.1 hf
    by_cases h1 : p.2.b = b
    · exact ⟨f', List.mem_append_left _ (List.mem_map.2 ⟨(p.1, f'), List.mem_map.2 ⟨p, hp, by rw [if_pos h1]⟩, rfl⟩), by rw [hb, ← h1]; exact e⟩
    · exact ⟨p.2, List.mem_append_left _ (List.mem_map.2 ⟨p, List.mem_map.2 ⟨p, hp, by rw [if_neg h1]⟩, rfl⟩), e⟩
  · exact ⟨f, List.mem_append_right _ hf, e⟩
end Go.Proofs.YtaibjeehjhlicaaGreatDoor
namespace Go.Proofs.YtaibjeehjhlicaaGreatDoor
open Go.RowKit Go.Shelf TextNum ModNum
/-- the bytes of a name in a list of files -/
def bOf (L : List (List UInt8 × List UInt8)) (l : List UInt8) : List UInt8 := ((L.find? fun p => p.1 == l).map (·.2)).getD []
/-- a list of files, sorted by name -/
def srF (L : List (List UInt8 × List UInt8)) : List (List UInt8 × List UInt8) := (srt (L.map Prod.fst)).map fun l => (l, bOf L l)
theorem bOf_mem {L : List (List UInt8 × List UInt8)} (nd : (L.map Prod.fst).Nodup) {p : List UInt8 × List UInt8} (hp : p ∈ L) : bOf L p.1 = p.2 := by
  unfold bOf
  obtain ⟨xs, ys, e⟩ := List.append_of_mem hp
  subst e
  rw [List.map_append, List.map_cons, List.nodup_append] at nd
  have h1 : xs.find? (fun q => q.1 == p.1) = none := List.find?_eq_none.2 (fun q hq e => nd.2.2 q.1 (List.mem_map_of_mem hq) p.1 List.mem_cons_self (beq_iff_eq.1 e))
  rw [List.find?_append, h1, List.find?_cons]
  simp
theorem fsOf_srF (nf : List (List UInt8 × FL)) : fsOf nf = srF (nf.map fun p => (p.1, p.2.nb)) := by
  unfold fsOf srF
  rw [List.map_map]
  congr 1
  funext l
  unfold nbOf bOf
  rw [List.find?_map]
  have e : ((fun p : List UInt8 × List UInt8 => p.1 == l) ∘ fun p : List UInt8 × FL => (p.1, p.2.nb)) = fun p => p.1 == l := rfl
  rw [e]
  cases nf.find? fun p => p.1 == l <;> rfl
/-- names that rise, of the same files -/
theorem srF_eq {L L' : List (List UInt8 × List UInt8)} (nd : (L.map Prod.fst).Nodup) (hp : L'.Perm L) (hs : (L'.map Prod.fst).Pairwise (fun x y => x ≤ y)) : srF L = L' := by
  unfold srF
  have h1 : srt (L.map Prod.fst) = L'.map Prod.fst := List.Perm.eq_of_pairwise (le := fun x y => x ≤ y) (fun _ _ _ _ h k => List.le_antisymm h k) (srt_pw _) hs ((srt_perm _).trans (hp.map Prod.fst).symm)
  rw [h1, List.map_map]
  conv => rhs; rw [← List.map_id L']
  refine List.map_congr_left (fun p hq => ?_)
  show (p.1, bOf L p.1) = p
  rw [bOf_mem nd (hp.mem_iff.1 hq)]
theorem srF_fst (L : List (List UInt8 × List UInt8)) : (srF L).map Prod.fst = srt (L.map Prod.fst) := by
  unfold srF
  rw [List.map_map]
  conv => rhs; rw [← List.map_id (srt _)]
  rfl
theorem nodup_of_fst {L : List (List UInt8 × List UInt8)} (nd : (L.map Prod.fst).Nodup) : L.Nodup := by
  induction L with
  | nil => exact List.nodup_nil
  | cons p r ih =>
    rw [List.map_cons, List.nodup_cons] at nd
    exact List.nodup_cons.2 ⟨fun h => nd.1 (List.mem_map_of_mem h), ih nd.2⟩
theorem srF_mem {L : List (List UInt8 × List UInt8)} (nd : (L.map Prod.fst).Nodup) {p : List UInt8 × List UInt8} : p ∈ srF L ↔ p ∈ L := by
  unfold srF
  rw [List.mem_map]
  constructor
  · rintro ⟨l, hl, rfl⟩
    obtain ⟨q, hq, rfl⟩ := List.mem_map.1 (srt_mem.1 hl)
    rw [bOf_mem nd hq]
    exact hq
  · intro hp
    exact ⟨p.1, srt_mem.2 (List.mem_map_of_mem hp), by rw [bOf_mem nd hp]⟩
theorem srF_nd {L : List (List UInt8 × List UInt8)} (nd : (L.map Prod.fst).Nodup) : ((srF L).map Prod.fst).Nodup := by
  rw [srF_fst]
  exact (srt_perm _).nodup_iff.2 nd
theorem srF_perm {L : List (List UInt8 × List UInt8)} (nd : (L.map Prod.fst).Nodup) : (srF L).Perm L :=
  (List.perm_ext_iff_of_nodup (nodup_of_fst (srF_nd nd)) (nodup_of_fst nd)).2 (fun _ => srF_mem nd)
theorem srF_srF {L : List (List UInt8 × List UInt8)} (nd : (L.map Prod.fst).Nodup) : srF (srF L) = srF L :=
  srF_eq (srF_nd nd) (List.Perm.refl _) (by rw [srF_fst]; exact srt_pw _)
/-- which writes are left of a file: none, one -/
theorem dat_app (cs : List Int) (k0 i : Nat) (lb : List UInt8) (A B : List WL) : dat cs k0 i lb (A ++ B) = dat cs (k0 + A.length) i (dat cs k0 i lb A) B := by
  unfold dat
  rw [List.zipIdx_append, List.foldl_append]
theorem dat_none {cs : List Int} {i : Nat} {ws : List WL} : ∀ {k0 : Nat} {lb : List UInt8}, (∀ x ∈ ws, x.i ≠ i) → dat cs k0 i lb ws = lb := by
  induction ws with
  | nil => intro k0 lb _; rfl
  | cons x r ih =>
    intro k0 lb h
    rw [show x :: r = [x] ++ r from rfl, dat_app, ih (fun y hy => h y (List.mem_cons_of_mem _ hy))]
    show (if x.i = i then _ else lb) = lb
    rw [if_neg (h x List.mem_cons_self)]
theorem dat_one {cs : List Int} {k0 i j : Nat} {lb : List UInt8} {ws : List WL} (hj : j < ws.length) (h1 : ws[j].i = i) (h2 : ∀ m (hm : m < ws.length), m ≠ j → ws[m].i ≠ i) : dat cs k0 i lb ws = wr lb ws[j].l.p (ws[j].l.ds.take (cz cs (k0 + j) ws[j].l.ds.length)) := by
  have e : ws = ws.take j ++ (ws[j] :: ws.drop (j + 1)) := by
    rw [List.getElem_cons_drop, List.take_append_drop]
  have hl : (ws.take j).length = j := by rw [List.length_take]; omega
  conv => lhs; rw [e]
  rw [dat_app, dat_none (ws := ws.take j) (fun x hx => ?_), hl, show ws[j] :: ws.drop (j + 1) = [ws[j]] ++ ws.drop (j + 1) from rfl, dat_app, dat_none (ws := ws.drop (j + 1)) (fun x hx => ?_)]
  · show (if ws[j].i = i then _ else lb) = _
    rw [if_pos h1]
  · obtain ⟨m, hm, rfl⟩ := List.getElem_of_mem hx
    rw [List.length_drop] at hm
    rw [List.getElem_drop]
    exact h2 _ (by omega) (by omega)
  · obtain ⟨m, hm, rfl⟩ := List.getElem_of_mem hx
    rw [List.length_take] at hm
    rw [List.getElem_take]
    exact h2 _ (by omega) (by omega)
theorem wr_nil (ds : List UInt8) : wr [] 0 ds = ds := by
  unfold wr splice
  split
  · rename_i h; exact h.symm
  · simp
theorem wls_tn (gs : LG) : (wls gs).map (·.l.tn) = gs.flatMap fun p => p.2.lo.map (·.tn) := by
  unfold wls
  rw [List.map_flatMap]
  simp only [List.map_map]
  have : ∀ (l : List ((List UInt8 × FL) × Nat)), (l.flatMap fun p => p.1.2.lo.map ((fun x : WL => x.l.tn) ∘ fun x => (⟨p.2, x⟩ : WL))) = (l.map Prod.fst).flatMap fun p => p.2.lo.map (·.tn) := fun l => by
    rw [List.flatMap_map]
    rfl
  rw [this, List.zipIdx_map_fst]
theorem wls_has {gs : LG} {i : Nat} (hi : i < gs.length) {l : LW} (hl : l ∈ gs[i].2.lo) : (⟨i, l⟩ : WL) ∈ wls gs := by
  unfold wls
  rw [List.mem_flatMap]
  refine ⟨(gs[i], i), ?_, List.mem_map.2 ⟨l, hl, rfl⟩⟩
  rw [List.mem_zipIdx_iff_getElem?]
  exact List.getElem?_eq_getElem hi
theorem fm_single {α β : Type} (f : α → List β) (g : α → β) : ∀ l : List α, (∀ x ∈ l, f x = [g x]) → l.flatMap f = l.map g
  | [], _ => rfl
  | a :: r, h => by
    rw [List.flatMap_cons, List.map_cons, h a List.mem_cons_self, fm_single f g r (fun x hx => h x (List.mem_cons_of_mem _ hx))]
    rfl
theorem nd_of_map {α β : Type} (f : α → β) : ∀ l : List α, (l.map f).Nodup → l.Nodup
  | [], _ => List.nodup_nil
  | a :: r, h => by
    rw [List.map_cons, List.nodup_cons] at h
    exact List.nodup_cons.2 ⟨fun k => h.1 (List.mem_map_of_mem k), nd_of_map f r h.2⟩
/-- files that are made one behind the other, each with one loose write -/
structure PF (chs : List NA) (nf : LG) (K : List (List UInt8)) : Prop where
  nl : nf.length = K.length
  cl : chs.length = K.length
  fl : ∀ i (h : i < K.length), nf[i].1 = ltr i ∧ nf[i].2.lb = [] ∧ nf[i].2.nb = K[i] ∧ (∃ l, nf[i].2.lo = [l] ∧ l.p = 0 ∧ l.ds = K[i] ∧ l.tn = (i : Int)) ∧ chs[i].kd = 0 ∧ chs[i].s.data.toList = ltr i ∧ chs[i].f = nf[i].2.b
theorem PF.run {chs : List NA} {nf : LG} {K : List (List UInt8)} (h : PF chs nf K) (hK : K.length ≤ 100) : ∀ k, k ≤ K.length → ∀ l b, nrun (chs.take k) (fun _ => none) l = some b ↔ ∃ i, ∃ hi : i < nf.length, i < k ∧ l = ltr i ∧ b = nf[i].2.b := by
  intro k
  induction k with
  | zero =>
    intro _ l b
    constructor
    · intro e; cases e
    · rintro ⟨i, _, h0, _⟩; omega
  | succ k ih =>
    intro hk l b
    have hc : k < chs.length := by rw [h.cl]; omega
    have hn : k < nf.length := by rw [h.nl]; omega
    obtain ⟨h1, _, _, _, h5, h6, h7⟩ := h.fl k (by omega)
    rw [List.take_succ_eq_append_getElem hc, nrun_snoc]
    unfold nac
    rw [if_pos h5, h6, h7]
    unfold nput
    by_cases hl : l = ltr k
    · rw [if_pos hl]
      constructor
      · intro e
        exact ⟨k, hn, by omega, hl, (Option.some.inj e).symm⟩
      · rintro ⟨i, hi, hik, e1, e2⟩
        have hin := h.nl
        have : k = i := ltr_inj k (by omega) i (by omega) (hl.symm.trans e1)
        subst this
        rw [e2]
    · rw [if_neg hl, ih (by omega)]
      constructor
      · rintro ⟨i, hi, hik, e1, e2⟩
        exact ⟨i, hi, by omega, e1, e2⟩
      · rintro ⟨i, hi, hik, e1, e2⟩
        refine ⟨i, hi, ?_, e1, e2⟩
        rcases Nat.lt_or_ge i k with h0 | h0
        · exact h0
        · have : i = k := by omega
          subst this
          exact absurd e1 hl
theorem ltr_up : ∀ k, k ≤ 100 → ∀ m, m ≤ 100 → k < m → ltr k ≤ ltr m := by decide +kernel
/-- what a crash leaves of them -/
theorem PF.left {chs : List NA} {nf : LG} {K : List (List UInt8)} (h : PF chs nf K) (hK : K.length ≤ 100) (nb : (nf.map (·.2.b)).Nodup) {cs : List Int} {gs : LG} {ws : List WL} (n : Nat) (hn : n ≤ K.length)
    (g1 : (gs.map Prod.fst).Nodup) (g2 : ∀ l, l ∈ gs.map Prod.fst ↔ (nrun (chs.take n) (fun _ => none) l).isSome = true) (g3 : ∀ p ∈ gs, p.2 ∈ nf.map (·.2) ∧ nrun (chs.take n) (fun _ => none) p.1 = some p.2.b)
    (g4 : ws.Perm (wls gs)) (g5 : ws.Pairwise fun x y => x.l.tn ≤ y.l.tn) : srF (lfs cs 1 gs ws) = (List.range n).map fun i => (ltr i, (K.getD i []).take (cz cs (i + 1) (K.getD i []).length)) := by
  have hR := h.run hK n hn
  have hnl := h.nl
  -- each of them is a file
  have q1 : ∀ p ∈ gs, ∃ i, ∃ hi : i < nf.length, i < n ∧ p = nf[i] := fun p hp => by
    obtain ⟨h1, h2⟩ := g3 p hp
    obtain ⟨i, hi, hin, e1, e2⟩ := (hR _ _).1 h2
    refine ⟨i, hi, hin, ?_⟩
    obtain ⟨q, hq, e3⟩ := List.mem_map.1 h1
    obtain ⟨j, hj, rfl⟩ := List.getElem_of_mem hq
    have : i = j := by
      have h4 : (nf.map (·.2.b))[i]'(by simpa using hi) = (nf.map (·.2.b))[j]'(by simpa using hj) := by
        rw [List.getElem_map, List.getElem_map, e3]
        exact e2.symm
      exact (List.getElem_inj nb).1 h4
    subst this
    have h5 := (h.fl i (by omega)).1
    rw [Prod.ext_iff]
    exact ⟨e1.trans h5.symm, e3.symm⟩
  have q2 : ∀ i, i < n → ∃ j, ∃ hj : j < gs.length, ∃ hi : i < nf.length, gs[j] = nf[i] := fun i hi => by
    have hin : i < nf.length := by omega
    have h1 : ltr i ∈ gs.map Prod.fst := (g2 _).2 (by rw [(hR _ _).2 ⟨i, hin, hi, rfl, rfl⟩]; rfl)
    obtain ⟨p, hp, e⟩ := List.mem_map.1 h1
    obtain ⟨i', hi', hin', e'⟩ := q1 p hp
    have : i = i' := ltr_inj i (by omega) i' (by omega) (by rw [← e, e']; exact (h.fl i' (by omega)).1)
    subst this
    obtain ⟨j, hj, rfl⟩ := List.getElem_of_mem hp
    exact ⟨j, hj, hin, e'⟩
  -- the writes' turns are 0, 1, ..
  have q3 : ws.map (·.l.tn) = (List.range n).map fun i : Nat => (i : Int) := by
    refine List.Perm.eq_of_pairwise (le := fun x y : Int => x ≤ y) (fun _ _ _ _ h k => Int.le_antisymm h k) (List.pairwise_map.2 g5) ?_ ?_
    · rw [List.pairwise_map]
      refine List.Pairwise.imp (fun hlt => ?_) List.pairwise_lt_range
      omega
    · refine (g4.map _).trans ?_
      rw [wls_tn]
      have e : (gs.flatMap fun p => p.2.lo.map (·.tn)) = gs.map fun p => (p.2.lo.map (·.tn)).headD 0 := by
        refine fm_single _ _ gs (fun p hp => ?_)
        obtain ⟨i, hi, hin, rfl⟩ := q1 p hp
        obtain ⟨_, _, _, ⟨l, hl, _⟩, _⟩ := h.fl i (by omega)
        rw [hl]
        rfl
      rw [e]
      refine (List.perm_ext_iff_of_nodup ?_ ?_).2 (fun x => ?_)
      · have e2 : (gs.map fun p => (p.2.lo.map (·.tn)).headD 0).map (fun t : Int => ltr t.toNat) = gs.map Prod.fst := by
          rw [List.map_map]
          refine List.map_congr_left (fun p hp => ?_)
          obtain ⟨i, hi, hin, rfl⟩ := q1 p hp
          obtain ⟨h1, _, _, ⟨l, hl, _, _, ht⟩, _⟩ := h.fl i (by omega)
          show ltr ((nf[i].2.lo.map LW.tn).headD 0).toNat = nf[i].1
          rw [hl, h1]
          show ltr l.tn.toNat = ltr i
          rw [ht]
          rfl
        rw [← e2] at g1
        exact nd_of_map _ _ g1
      · exact List.Pairwise.map _ (fun a b hab e => hab (by exact_mod_cast e)) List.nodup_range
      · rw [List.mem_map, List.mem_map]
        constructor
        · rintro ⟨p, hp, rfl⟩
          obtain ⟨i, hi, hin, rfl⟩ := q1 p hp
          obtain ⟨_, _, _, ⟨l, hl, _, _, ht⟩, _⟩ := h.fl i (by omega)
          exact ⟨i, List.mem_range.2 hin, by rw [hl]; exact ht.symm⟩
        · rintro ⟨i, hi, rfl⟩
          have hi := List.mem_range.1 hi
          obtain ⟨j, hj, hin, e⟩ := q2 i hi
          obtain ⟨_, _, _, ⟨l, hl, _, _, ht⟩, _⟩ := h.fl i (by omega)
          exact ⟨gs[j], List.getElem_mem hj, by rw [e, hl]; exact ht⟩
  have q4 : ws.length = n := by have := congrArg List.length q3; simpa using this
  have q5 : ∀ j (hj : j < ws.length), ws[j].l.tn = (j : Int) := fun j hj => by
    have := congrArg (fun l => l[j]?) q3
    simp only [List.getElem?_map, List.getElem?_eq_getElem hj, Option.map_some] at this
    rw [List.getElem?_range (by omega)] at this
    exact Option.some.inj this
  -- a file's bytes
  have q6 : ∀ i, i < n → ∀ j (hj : j < gs.length) (hi : i < nf.length), gs[j] = nf[i] → dat cs 1 j gs[j].2.lb ws = (K.getD i []).take (cz cs (i + 1) (K.getD i []).length) := fun i hin j hj hi e => by
    obtain ⟨_, h2, _, ⟨l, hl, hp, hd, ht⟩, _⟩ := h.fl i (by omega)
    have hw : ∀ m (hm : m < ws.length), ws[m].i = j → m = i := fun m hm e1 => by
      obtain ⟨hi1, hl1⟩ := wls_mem (g4.mem_iff.1 (List.getElem_mem hm))
      have e2 : gs[ws[m].i] = gs[j] := by congr 1
      rw [e2, e, hl, List.mem_singleton] at hl1
      have := q5 m hm
      rw [hl1, ht] at this
      omega
    obtain ⟨m, hm, e1⟩ := List.getElem_of_mem (g4.mem_iff.2 (wls_has hj (l := l) (by rw [e, hl]; exact List.mem_singleton.2 rfl)))
    have e3 := hw m hm (by rw [e1])
    subst e3
    rw [dat_one hm (by rw [e1]) (fun k hk hne e4 => hne (hw k hk e4)), e1, e, h2]
    show wr [] l.p (l.ds.take (cz cs (1 + m) l.ds.length)) = _
    have hKi : K.getD m [] = K[m]'(by omega) := by
      rw [List.getD_eq_getElem?_getD, List.getElem?_eq_getElem (by omega)]
      rfl
    rw [hp, wr_nil, hd, hKi, Nat.add_comm 1 m]
  have nd : ((lfs cs 1 gs ws).map Prod.fst).Nodup := by rw [lfs_fst]; exact g1
  refine srF_eq nd ((List.perm_ext_iff_of_nodup (nodup_of_fst ?_) (nodup_of_fst nd)).2 (fun x => ?_)) ?_
  · rw [List.map_map]
    exact List.Pairwise.map _ (fun a b hab => hab) (List.Pairwise.imp_of_mem (fun {a b} ha hb hab e => hab (ltr_inj a (by have := List.mem_range.1 ha; omega) b (by have := List.mem_range.1 hb; omega) e)) List.nodup_range)
  · rw [List.mem_map]
    constructor
    · rintro ⟨i, hi, rfl⟩
      have hi := List.mem_range.1 hi
      obtain ⟨j, hj, hin, e⟩ := q2 i hi
      refine List.mem_of_getElem? (i := j) ?_
      rw [lfs_get hj, q6 i hi j hj hin e, e, (h.fl i (by omega)).1]
    · intro hx
      obtain ⟨j, hj, e1⟩ := List.getElem_of_mem hx
      rw [lfs_len] at hj
      have e2 := lfs_get (cs := cs) (k0 := 1) (ws := ws) hj
      rw [List.getElem?_eq_getElem (by rw [lfs_len]; exact hj), e1] at e2
      obtain ⟨i, hi, hin, e3⟩ := q1 gs[j] (List.getElem_mem hj)
      refine ⟨i, List.mem_range.2 hin, ?_⟩
      rw [Option.some.inj e2, q6 i hin j hj hi e3, e3, (h.fl i (by omega)).1]
  · rw [List.map_map, List.pairwise_map]
    refine List.Pairwise.imp_of_mem (fun {a b} ha hb hab => ?_) List.pairwise_lt_range
    exact ltr_up a (by have := List.mem_range.1 ha; omega) b (by have := List.mem_range.1 hb; omega) hab
end Go.Proofs.YtaibjeehjhlicaaGreatDoor
