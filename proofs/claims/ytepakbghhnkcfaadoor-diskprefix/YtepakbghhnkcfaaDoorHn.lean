import Derived.Test.YtepakbghhnkcfaaDoorHm
import Derived.Test.YtepakbghhnkcfaaDoorGn
namespace Go.Proofs.YtepakbghhnkcfaaDoor
open Go.RowKit Go.Shelf TextNum ModNum
/-- all that the names' acts may leave names these files, each once -/
structure CN (chs : List NA) (las : NM) (P : Nat → Prop) : Prop where
  fit : NFit chs las
  mem : ∀ k l b, nrun (chs.take k) las l = some b → P b ∧ isNm l = true
  inj : ∀ k l l' b, nrun (chs.take k) las l = some b → nrun (chs.take k) las l' = some b → l = l'
theorem CN.mono {chs : List NA} {las : NM} {P Q : Nat → Prop} (h : CN chs las P) (hq : ∀ b, P b → Q b) : CN chs las Q :=
  ⟨h.fit, fun k l b e => ⟨hq b (h.mem k l b e).1, (h.mem k l b e).2⟩, h.inj⟩
theorem CN.memAll {chs : List NA} {las : NM} {P : Nat → Prop} (h : CN chs las P) {l : List UInt8} {b : Nat} (e : nrun chs las l = some b) : P b ∧ isNm l = true := h.mem chs.length l b (by rw [List.take_length]; exact e)
theorem CN.injAll {chs : List NA} {las : NM} {P : Nat → Prop} (h : CN chs las P) {l l' : List UInt8} {b : Nat} (e : nrun chs las l = some b) (e' : nrun chs las l' = some b) : l = l' := h.inj chs.length l l' b (by rw [List.take_length]; exact e) (by rw [List.take_length]; exact e')
theorem CN.snoc {chs : List NA} {las : NM} {P : Nat → Prop} (h : CN chs las P) {c : NA} (hf : nfit c (nrun chs las)) (h1 : ∀ l b, nac c (nrun chs las) l = some b → P b ∧ isNm l = true)
    (h2 : ∀ l l' b, nac c (nrun chs las) l = some b → nac c (nrun chs las) l' = some b → l = l') : CN (chs ++ [c]) las P := by
  have ht : ∀ k, nrun ((chs ++ [c]).take k) las = nrun (chs.take k) las ∨ nrun ((chs ++ [c]).take k) las = nac c (nrun chs las) := fun k => by
    rcases Nat.lt_or_ge chs.length k with hk | hk
    · right
      rw [List.take_of_length_le (by rw [List.length_append, List.length_singleton]; omega), nrun_snoc]
    · left
      rw [List.take_append_of_le_length hk]
  refine ⟨h.fit.snoc hf, fun k l b e => ?_, fun k l l' b e e' => ?_⟩
  · rcases ht k with hk | hk
    · rw [hk] at e; exact h.mem k l b e
    · rw [hk] at e; exact h1 l b e
  · rcases ht k with hk | hk
    · rw [hk] at e e'; exact h.inj k l l' b e e'
    · rw [hk] at e e'; exact h2 l l' b e e'
theorem nput_some {m : NM} {l x : List UInt8} {b c : Nat} (h : nput m l b x = some c) : (x = l ∧ c = b) ∨ (x ≠ l ∧ m x = some c) := by
  unfold nput at h
  split at h
  · rename_i e
    exact .inl ⟨e, (Option.some.inj h).symm⟩
  · rename_i e
    exact .inr ⟨e, h⟩
theorem ndel_some {m : NM} {l x : List UInt8} {c : Nat} (h : ndel m l x = some c) : x ≠ l ∧ m x = some c := by
  unfold ndel at h
  split at h
  · cases h
  · rename_i e
    exact ⟨e, h⟩
theorem CN.create {chs : List NA} {las : NM} {P : Nat → Prop} (h : CN chs las P) {nm : ByteArray} {F b1 b2 : Nat} (hn : isNm nm.data.toList = true) (hF : ¬ P F) : CN (chs ++ [⟨0, nm, nm, F, b1, b2⟩]) las (fun b => b = F ∨ P b) := by
  refine (h.mono (fun b hb => .inr hb)).snoc (.inl rfl) (fun l b e => ?_) (fun l l' b e e' => ?_)
  · rcases nput_some (show nput (nrun chs las) nm.data.toList F l = some b from e) with ⟨rfl, rfl⟩ | ⟨_, e⟩
    · exact ⟨.inl rfl, hn⟩
    · exact ⟨.inr (h.memAll e).1, (h.memAll e).2⟩
  · rcases nput_some (show nput (nrun chs las) nm.data.toList F l = some b from e) with ⟨rfl, rfl⟩ | ⟨_, e⟩
    · rcases nput_some (show nput (nrun chs las) nm.data.toList b l' = some b from e') with ⟨h1, _⟩ | ⟨_, e'⟩
      · exact h1.symm
      · exact absurd (h.memAll e').1 hF
    · rcases nput_some (show nput (nrun chs las) nm.data.toList F l' = some b from e') with ⟨_, h2⟩ | ⟨_, e'⟩
      · exact absurd (h.memAll e).1 (by rw [h2]; exact hF)
      · exact h.injAll e e'
theorem CN.remove {chs : List NA} {las : NM} {P : Nat → Prop} (h : CN chs las P) {nm : ByteArray} {b1 b2 : Nat} : CN (chs ++ [⟨1, nm, nm, 0, b1, b2⟩]) las P := by
  refine h.snoc (.inr (.inl rfl)) (fun l b e => ?_) (fun l l' b e e' => ?_)
  · exact h.memAll (ndel_some (show ndel (nrun chs las) nm.data.toList l = some b from e)).2
  · exact h.injAll (ndel_some (show ndel (nrun chs las) nm.data.toList l = some b from e)).2 (ndel_some (show ndel (nrun chs las) nm.data.toList l' = some b from e')).2
theorem nac_rename {m : NM} {nm tm : ByteArray} {f b b1 b2 : Nat} (h : m nm.data.toList = some b) : nac ⟨2, nm, tm, f, b1, b2⟩ m = nput (ndel m nm.data.toList) tm.data.toList b := by
  unfold nac
  rw [if_neg (by simp), if_neg (by simp)]
  simp only [h]
theorem CN.rename {chs : List NA} {las : NM} {P : Nat → Prop} (h : CN chs las P) {nm tm : ByteArray} {b b1 b2 : Nat} (hb : nrun chs las nm.data.toList = some b) (ht : isNm tm.data.toList = true) : CN (chs ++ [⟨2, nm, tm, 0, b1, b2⟩]) las P := by
  refine h.snoc (.inr (.inr ⟨rfl, by rw [hb]; rfl⟩)) (fun l c e => ?_) (fun l l' c e e' => ?_)
  · rw [nac_rename hb] at e
    rcases nput_some e with ⟨rfl, rfl⟩ | ⟨_, e⟩
    · exact ⟨(h.memAll hb).1, ht⟩
    · exact h.memAll (ndel_some e).2
  · rw [nac_rename hb] at e e'
    rcases nput_some e with ⟨rfl, rfl⟩ | ⟨_, e⟩
    · rcases nput_some e' with ⟨h1, _⟩ | ⟨_, e'⟩
      · exact h1.symm
      · exact absurd (h.injAll (ndel_some e').2 hb) (ndel_some e').1
    · rcases nput_some e' with ⟨_, h2⟩ | ⟨_, e'⟩
      · rw [h2] at e
        exact absurd (h.injAll (ndel_some e).2 hb) (ndel_some e).1
      · exact h.injAll (ndel_some e).2 (ndel_some e').2
theorem nmOf_snoc {nf : List (List UInt8 × FL)} {l : List UInt8} {f : FL} (h : l ∉ nf.map (·.1)) : nmOf (nf ++ [(l, f)]) = nput (nmOf nf) l f.b := by
  funext x
  unfold nput
  by_cases hx : x = l
  · subst hx
    rw [if_pos rfl]
    unfold nmOf
    rw [List.find?_append, List.find?_eq_none.2 (fun p hp e => h (List.mem_map.2 ⟨p, hp, by simpa using e⟩))]
    simp
  · rw [if_neg hx]
    unfold nmOf
    rw [List.find?_append]
    have : ([(l, f)].find? fun p => p.1 == x) = none := by simp [Ne.symm hx]
    rw [this, Option.or_none]
theorem nmOf_drp (nf : List (List UInt8 × FL)) (l : List UInt8) : nmOf (drp nf l) = ndel (nmOf nf) l := by
  funext x
  unfold ndel
  by_cases hx : x = l
  · subst hx
    rw [if_pos rfl]
    refine nmOf_no (fun h => ?_)
    obtain ⟨p, hp, e⟩ := List.mem_map.1 h
    exact (mem_drp.1 hp).2 e
  · rw [if_neg hx]
    unfold nmOf drp
    rw [List.find?_filter]
    congr 2
    funext p
    by_cases hp : p.1 = x
    · simp [hp, hx]
    · simp [hp]
theorem nput_ndel (m : NM) (l : List UInt8) (b : Nat) : nput (ndel m l) l b = nput m l b := by
  funext x
  unfold nput ndel
  split <;> simp_all
theorem nmOf_put (nf : List (List UInt8 × FL)) (l : List UInt8) (f : FL) : nmOf (drp nf l ++ [(l, f)]) = nput (nmOf nf) l f.b := by
  rw [nmOf_snoc (fun h => by obtain ⟨p, hp, e⟩ := List.mem_map.1 h; exact (mem_drp.1 hp).2 e), nmOf_drp, nput_ndel]
/-- the names of now are what the names' acts leave -/
structure CW (s : DD) : Prop where
  cn : CN s.chs s.las (fun b => ∃ f ∈ fls s, f.b = b)
  now : nrun s.chs s.las = nmOf s.nf
theorem CW.cr {s : DD} (h : CW s) (nd : (s.nf.map (·.1)).Nodup) {nm : ByteArray} {F bp b2 : Nat} {vC vLo : Value} (hn : isNm nm.data.toList = true) (hF : ∀ f ∈ fls s, f.b ≠ F) : CW (crS s nm F bp b2 vC vLo) := by
  have P := crS_perm (s := s) (nm := nm) (F := F) (bp := bp) (b2 := b2) (vC := vC) (vLo := vLo) nd
  refine ⟨(h.cn.create hn (fun ⟨f, hf, e⟩ => hF f hf e)).mono (fun b hb => ?_), ?_⟩
  · rcases hb with rfl | ⟨f, hf, e⟩
    · exact ⟨fnew b, P.mem_iff.2 List.mem_cons_self, rfl⟩
    · exact ⟨f, P.mem_iff.2 (List.mem_cons_of_mem _ hf), e⟩
  · show nrun (s.chs ++ [⟨0, nm, nm, F, bp, b2⟩]) s.las = nmOf (drp s.nf nm.data.toList ++ [(nm.data.toList, fnew F)])
    rw [nrun_snoc, nmOf_put, h.now]
    rfl
theorem CW.rm {s : DD} (h : CW s) (nd : (s.nf.map (·.1)).Nodup) {nm : ByteArray} {b2 : Nat} {vC vLo : Value} : CW (rmS s nm b2 vC vLo) := by
  have P := rmS_perm (s := s) (nm := nm) (b2 := b2) (vC := vC) (vLo := vLo) nd
  refine ⟨(h.cn.remove).mono (fun b ⟨f, hf, e⟩ => ⟨f, P.mem_iff.2 hf, e⟩), ?_⟩
  show nrun (s.chs ++ [⟨1, nm, nm, 0, b2, b2⟩]) s.las = nmOf (drp s.nf nm.data.toList)
  rw [nrun_snoc, nmOf_drp, h.now]
  rfl
theorem CW.rn {s : DD} (h : CW s) (nd : (s.nf.map (·.1)).Nodup) {nm tm : ByteArray} {f : FL} {b1 b2 : Nat} {vC vLo : Value} (hg : gone s.nf nm.data.toList = [f]) (hf : (nm.data.toList, f) ∈ s.nf) (ht : isNm tm.data.toList = true) : CW (rnS s nm tm f b1 b2 vC vLo) := by
  have P := rnS_perm (s := s) (nm := nm) (tm := tm) (f := f) (b1 := b1) (b2 := b2) (vC := vC) (vLo := vLo) nd hg
  have hb : nrun s.chs s.las nm.data.toList = some f.b := by rw [h.now]; exact nmOf_mem nd hf
  refine ⟨(h.cn.rename hb ht).mono (fun b ⟨f, hf, e⟩ => ⟨f, P.mem_iff.2 hf, e⟩), ?_⟩
  show nrun (s.chs ++ [⟨2, nm, tm, 0, b1, b2⟩]) s.las = nmOf (drp (drp s.nf nm.data.toList) tm.data.toList ++ [(tm.data.toList, f)])
  rw [nrun_snoc, nac_rename hb, nmOf_put, nmOf_drp, h.now]
theorem nmOf_rpl (nf : List (List UInt8 × FL)) (b : Nat) (f' : FL) (hb : f'.b = b) : nmOf (rpl nf b f') = nmOf nf := by
  funext x
  unfold nmOf rpl
  rw [List.find?_map]
  have e : ((fun p : List UInt8 × FL => p.1 == x) ∘ fun p => if p.2.b = b then (p.1, f') else p) = fun p => p.1 == x := by
    funext p
    simp only [Function.comp]
    split <;> rfl
  rw [e]
  cases nf.find? fun p => p.1 == x with
  | none => rfl
  | some p =>
    simp only [Option.map_some]
    split
    · rename_i h1
      rw [h1]
      exact congrArg some hb
    · rfl
theorem CW.fl {s : DD} (h : CW s) {b : Nat} {f' : FL} {t : Nat} (hb : f'.b = b) : CW (flS s b f' t) := by
  refine ⟨h.cn.mono (fun c ⟨f, hf, e⟩ => ?_), h.now.trans (nmOf_rpl s.nf b f' hb).symm⟩
  rcases List.mem_append.1 hf with hf | hf
  · obtain ⟨p, hp, rfl⟩ := List.mem_map.1 hf
    by_cases h1 : p.2.b = b
    · exact ⟨f', List.mem_append_left _ (List.mem_map.2 ⟨(p.1, f'), List.mem_map.2 ⟨p, hp, by rw [if_pos h1]⟩, rfl⟩), by rw [hb, ← h1]; exact e⟩
    · exact ⟨p.2, List.mem_append_left _ (List.mem_map.2 ⟨p, List.mem_map.2 ⟨p, hp, by rw [if_neg h1]⟩, rfl⟩), e⟩
  · exact ⟨f, List.mem_append_right _ hf, e⟩
end Go.Proofs.YtepakbghhnkcfaaDoor
