import Derived.Test.YtaibjeehjhlicaaGreatDoorQbp
namespace Go.Proofs.YtaibjeehjhlicaaGreatDoor
open Go.RowKit Go.Shelf TextNum ModNum
/-- a file without its memory -/
structure AF where
  i : Nat
  nb : List UInt8
  lb : List UInt8
  lo : List (Nat × List UInt8 × Int)
def abl (l : LW) : Nat × List UInt8 × Int := (l.p, l.ds, l.tn)
def abf (φ : Nat → Nat) (f : FL) : AF := ⟨φ f.b, f.nb, f.lb, f.lo.map abl⟩
def abp (φ : Nat → Nat) (p : List UInt8 × FL) : List UInt8 × AF := (p.1, abf φ p.2)
def abc (φ : Nat → Nat) (c : NA) : Nat × List UInt8 × List UInt8 × Nat := (c.kd, c.s.data.toList, c.t.data.toList, if c.kd = 0 then φ c.f else 0)
/-- two disks that are the same but for their memory -/
structure Sm (φ : Nat → Nat) (s1 s2 : DD) : Prop where
  room : s1.room = s2.room
  chs : s1.chs.map (abc φ) = s2.chs.map (abc id)
  nf : s1.nf.map (abp φ) = s2.nf.map (abp id)
  of : s1.of.map (abf φ) = s2.of.map (abf id)
  las : ∀ l, (s1.las l).map φ = s2.las l
  trn : s1.trn = s2.trn
theorem abl_id (f : FL) : abf id f = ⟨f.b, f.nb, f.lb, f.lo.map abl⟩ := rfl
theorem Sm.refl (s : DD) : Sm id s s := ⟨rfl, rfl, rfl, rfl, fun l => by cases s.las l <;> rfl, rfl⟩
theorem usd_ab (φ : Nat → Nat) (nf : List (List UInt8 × FL)) : usd nf = ((nf.map (abp φ)).map fun p => p.2.nb.length).sum := by
  rw [List.map_map]; rfl
theorem lsd_ab (φ : Nat → Nat) (fs : List FL) : lsd fs = ((fs.map (abf φ)).map fun f => f.lo.length).sum := by
  rw [List.map_map]
  unfold lsd
  congr 1
  refine List.map_congr_left (fun f _ => ?_)
  show f.lo.length = (f.lo.map abl).length
  rw [List.length_map]
theorem fst_ab (φ : Nat → Nat) (nf : List (List UInt8 × FL)) : nf.map (·.1) = (nf.map (abp φ)).map (·.1) := by
  rw [List.map_map]; rfl
theorem nbOf_ab (φ : Nat → Nat) (nf : List (List UInt8 × FL)) (l : List UInt8) : nbOf nf l = (((nf.map (abp φ)).find? fun p => p.1 == l).map (·.2.nb)).getD [] := by
  unfold nbOf
  rw [List.find?_map, Option.map_map]
  rfl
theorem drp_ab (φ : Nat → Nat) (nf : List (List UInt8 × FL)) (l : List UInt8) : (drp nf l).map (abp φ) = (nf.map (abp φ)).filter fun p => decide (p.1 ≠ l) := by
  rw [List.filter_map]; rfl
theorem gone_ab (φ : Nat → Nat) (nf : List (List UInt8 × FL)) (l : List UInt8) : (gone nf l).map (abf φ) = ((nf.map (abp φ)).filter fun p => decide (p.1 = l)).map (·.2) := by
  rw [List.filter_map, List.map_map]
  unfold gone
  rw [List.map_map]
  rfl
theorem Sm.usd {φ : Nat → Nat} {s1 s2 : DD} (h : Sm φ s1 s2) : Go.Proofs.YtaibjeehjhlicaaGreatDoor.usd s1.nf = Go.Proofs.YtaibjeehjhlicaaGreatDoor.usd s2.nf := by rw [usd_ab φ, usd_ab id, h.nf]
theorem Sm.fls {φ : Nat → Nat} {s1 s2 : DD} (h : Sm φ s1 s2) : (Go.Proofs.YtaibjeehjhlicaaGreatDoor.fls s1).map (abf φ) = (Go.Proofs.YtaibjeehjhlicaaGreatDoor.fls s2).map (abf id) := by
  have e := congrArg (List.map Prod.snd) h.nf
  rw [List.map_map, List.map_map] at e
  unfold Go.Proofs.YtaibjeehjhlicaaGreatDoor.fls
  rw [List.map_append, List.map_append, h.of, List.map_map, List.map_map]
  congr 1
theorem Sm.lsd {φ : Nat → Nat} {s1 s2 : DD} (h : Sm φ s1 s2) : Go.Proofs.YtaibjeehjhlicaaGreatDoor.lsd (Go.Proofs.YtaibjeehjhlicaaGreatDoor.fls s1) = Go.Proofs.YtaibjeehjhlicaaGreatDoor.lsd (Go.Proofs.YtaibjeehjhlicaaGreatDoor.fls s2) := by rw [lsd_ab φ, lsd_ab id, h.fls]
theorem Sm.names {φ : Nat → Nat} {s1 s2 : DD} (h : Sm φ s1 s2) : s1.nf.map (·.1) = s2.nf.map (·.1) := by rw [fst_ab φ, fst_ab id, h.nf]
theorem Sm.nbOf {φ : Nat → Nat} {s1 s2 : DD} (h : Sm φ s1 s2) (l : List UInt8) : Go.Proofs.YtaibjeehjhlicaaGreatDoor.nbOf s1.nf l = Go.Proofs.YtaibjeehjhlicaaGreatDoor.nbOf s2.nf l := by rw [nbOf_ab φ, nbOf_ab id, h.nf]
theorem Sm.clen {φ : Nat → Nat} {s1 s2 : DD} (h : Sm φ s1 s2) : s1.chs.length = s2.chs.length := by
  have e := congrArg List.length h.chs
  rwa [List.length_map, List.length_map] at e
theorem nd_val {α : Type} {nf : List (List UInt8 × α)} (nd : (nf.map (·.1)).Nodup) {l : List UInt8} {a b : α} (h1 : (l, a) ∈ nf) (h2 : (l, b) ∈ nf) : a = b := by
  induction nf with
  | nil => cases h1
  | cons p r ih =>
    rw [List.map_cons, List.nodup_cons] at nd
    rcases List.mem_cons.1 h1 with e1 | h1
    · rcases List.mem_cons.1 h2 with e2 | h2
      · rw [← e1] at e2; injection e2 with _ e; exact e.symm
      · exact absurd (List.mem_map.2 ⟨_, h2, by rw [← e1]⟩) nd.1
    · rcases List.mem_cons.1 h2 with e2 | h2
      · exact absurd (List.mem_map.2 ⟨_, h1, by rw [← e2]⟩) nd.1
      · exact ih nd.2 h1 h2
/-- the same file on both -/
theorem Sm.find {φ : Nat → Nat} {s1 s2 : DD} (h : Sm φ s1 s2) (n2 : (s2.nf.map (·.1)).Nodup) {l : List UInt8} {f g : FL} (hf : (l, f) ∈ s1.nf) (hg : (l, g) ∈ s2.nf) : abf φ f = abf id g := by
  have h1 : abp φ (l, f) ∈ s2.nf.map (abp id) := by rw [← h.nf]; exact List.mem_map_of_mem hf
  obtain ⟨q, hq, e⟩ := List.mem_map.1 h1
  obtain ⟨ql, qf⟩ := q
  injection e with e1 e2
  subst e1
  rw [nd_val n2 hq hg] at e2
  exact e2.symm
def ucc (φ : Nat → Nat) (F G : Nat) : Nat → Nat := fun b => if b = F then G else φ b
theorem ucc_f {φ : Nat → Nat} {F G b : Nat} (h : b ≠ F) : ucc φ F G b = φ b := if_neg h
theorem abf_ucc {φ : Nat → Nat} {F G : Nat} {f : FL} (h : f.b ≠ F) : abf (ucc φ F G) f = abf φ f := by
  unfold abf; rw [ucc_f h]
/-- a file that an act has made is named so by it -/
theorem CN.made {chs : List NA} {las : NM} {P : Nat → Prop} (h : CN chs las P) {c : NA} (hc : c ∈ chs) (h0 : c.kd = 0) : P c.f := by
  obtain ⟨j, hj, e⟩ := List.mem_iff_getElem.1 hc
  have e2 : nrun (chs.take (j + 1)) las c.s.data.toList = some c.f := by
    rw [List.take_succ_eq_append_getElem hj, nrun_snoc, e]
    unfold nac
    rw [if_pos h0]
    unfold nput
    rw [if_pos rfl]
  exact (h.mem (j + 1) _ _ e2).1
theorem CN.first {chs : List NA} {las : NM} {P : Nat → Prop} (h : CN chs las P) {l : List UInt8} {b : Nat} (e : las l = some b) : P b := (h.mem 0 l b e).1
theorem Sm.cr {φ : Nat → Nat} {s1 s2 : DD} (h : Sm φ s1 s2) (c1 : CW s1) {nm : ByteArray} {F1 bp1 b1 F2 bp2 b2 : Nat} {vC1 vLo1 vC2 vLo2 : Value} (hF : ∀ f ∈ Go.Proofs.YtaibjeehjhlicaaGreatDoor.fls s1, f.b ≠ F1) : Sm (ucc φ F1 F2) (crS s1 nm F1 bp1 b1 vC1 vLo1) (crS s2 nm F2 bp2 b2 vC2 vLo2) := by
  have hP : ∀ b, (∃ f ∈ Go.Proofs.YtaibjeehjhlicaaGreatDoor.fls s1, f.b = b) → b ≠ F1 := fun b ⟨f, hf, e⟩ => e ▸ hF f hf
  have hnf : ∀ p ∈ s1.nf, abp (ucc φ F1 F2) p = abp φ p := fun p hp => by
    unfold abp
    rw [abf_ucc (hF p.2 (List.mem_append_left _ (List.mem_map_of_mem hp)))]
  have e1 : s1.nf.map (abp (ucc φ F1 F2)) = s2.nf.map (abp id) := by rw [List.map_congr_left hnf, h.nf]
  have e2 : s1.of.map (abf (ucc φ F1 F2)) = s2.of.map (abf id) := by
    rw [List.map_congr_left (fun f hf => abf_ucc (hF f (List.mem_append_right _ hf))), h.of]
  have e3 : s1.chs.map (abc (ucc φ F1 F2)) = s2.chs.map (abc id) := by
    rw [← h.chs]
    refine List.map_congr_left (fun c hc => ?_)
    unfold abc
    by_cases h0 : c.kd = 0
    · rw [if_pos h0, if_pos h0, ucc_f (hP _ (c1.cn.made hc h0))]
    · rw [if_neg h0, if_neg h0]
  have hu : ucc φ F1 F2 F1 = F2 := if_pos rfl
  refine ⟨h.room, ?_, ?_, ?_, fun l => ?_, h.trn⟩
  · show (s1.chs ++ [_]).map _ = (s2.chs ++ [_]).map _
    rw [List.map_append, List.map_append, e3]
    simp [abc, hu]
  · show (drp s1.nf nm.data.toList ++ [(nm.data.toList, fnew F1)]).map _ = (drp s2.nf nm.data.toList ++ [(nm.data.toList, fnew F2)]).map _
    rw [List.map_append, List.map_append, drp_ab, drp_ab, e1]
    simp [abp, abf, hu]
  · show (s1.of ++ gone s1.nf nm.data.toList).map _ = (s2.of ++ gone s2.nf nm.data.toList).map _
    rw [List.map_append, List.map_append, gone_ab, gone_ab, e1, e2]
  · show (s1.las l).map (ucc φ F1 F2) = s2.las l
    rw [← h.las l]
    cases e : s1.las l with
    | none => rfl
    | some b => rw [Option.map_some, Option.map_some, ucc_f (hP _ (c1.cn.first e))]
theorem Sm.rm {φ : Nat → Nat} {s1 s2 : DD} (h : Sm φ s1 s2) {nm : ByteArray} {b1 b2 : Nat} {vC1 vLo1 vC2 vLo2 : Value} : Sm φ (rmS s1 nm b1 vC1 vLo1) (rmS s2 nm b2 vC2 vLo2) := by
  refine ⟨h.room, ?_, ?_, ?_, h.las, h.trn⟩
  · show (s1.chs ++ [_]).map _ = (s2.chs ++ [_]).map _
    rw [List.map_append, List.map_append, h.chs]
    simp [abc]
  · show (drp s1.nf nm.data.toList).map _ = (drp s2.nf nm.data.toList).map _
    rw [drp_ab, drp_ab, h.nf]
  · show (s1.of ++ gone s1.nf nm.data.toList).map _ = (s2.of ++ gone s2.nf nm.data.toList).map _
    rw [List.map_append, List.map_append, gone_ab, gone_ab, h.of, h.nf]
theorem Sm.rn {φ : Nat → Nat} {s1 s2 : DD} (h : Sm φ s1 s2) {nm tm : ByteArray} {f g : FL} {b1 b2 c1 c2 : Nat} {vC1 vLo1 vC2 vLo2 : Value} (he : abf φ f = abf id g) : Sm φ (rnS s1 nm tm f b1 b2 vC1 vLo1) (rnS s2 nm tm g c1 c2 vC2 vLo2) := by
  refine ⟨h.room, ?_, ?_, ?_, h.las, h.trn⟩
  · show (s1.chs ++ [_]).map _ = (s2.chs ++ [_]).map _
    rw [List.map_append, List.map_append, h.chs]
    simp [abc]
  · show (drp (drp s1.nf nm.data.toList) tm.data.toList ++ [(tm.data.toList, f)]).map _ = (drp (drp s2.nf nm.data.toList) tm.data.toList ++ [(tm.data.toList, g)]).map _
    rw [List.map_append, List.map_append, drp_ab, drp_ab, drp_ab, drp_ab, h.nf]
    simp [abp, he]
  · show (s1.of ++ gone (drp s1.nf nm.data.toList) tm.data.toList).map _ = (s2.of ++ gone (drp s2.nf nm.data.toList) tm.data.toList).map _
    rw [List.map_append, List.map_append, gone_ab, gone_ab, drp_ab, drp_ab, h.of, h.nf]
/-- a file is put in another's place -/
def ND (s : DD) : Prop := (s.nf.map (·.1)).Nodup ∧ ((fls s).map (·.b)).Nodup
theorem ND.split {s : DD} (h : ND s) {l : List UInt8} {f : FL} (hf : (l, f) ∈ s.nf) : ∃ xs ys, s.nf = xs ++ (l, f) :: ys ∧ l ∉ xs.map (·.1) ∧ (∀ f', rpl s.nf f.b f' = xs ++ (l, f') :: ys) ∧ (fls s).Perm (f :: (xs.map (·.2) ++ ys.map (·.2) ++ s.of)) ∧ ∀ g ∈ xs.map (·.2) ++ ys.map (·.2) ++ s.of, g.b ≠ f.b := by
  obtain ⟨xs, ys, e⟩ := List.append_of_mem hf
  have P : (fls s).Perm (f :: (xs.map (·.2) ++ ys.map (·.2) ++ s.of)) := by
    unfold fls
    rw [e, List.map_append, List.map_cons, List.append_assoc, List.cons_append, List.append_assoc]
    exact List.perm_middle
  have h2 := ((P.map (·.b)).nodup_iff.1 h.2)
  rw [List.map_cons, List.nodup_cons] at h2
  have h3 : ∀ g ∈ xs.map (·.2) ++ ys.map (·.2) ++ s.of, g.b ≠ f.b := fun g hg e => h2.1 (List.mem_map.2 ⟨g, hg, e⟩)
  have h4 := h.1
  rw [e, List.map_append, List.map_cons, List.nodup_append] at h4
  refine ⟨xs, ys, e, fun hl => h4.2.2 l hl l List.mem_cons_self rfl, fun f' => ?_, P, h3⟩
  rw [e]
  exact rpl_split (fun p hp => h3 p.2 (List.mem_append_left _ (List.mem_append_left _ (List.mem_map.2 ⟨p, hp, rfl⟩)))) (fun p hp => h3 p.2 (List.mem_append_left _ (List.mem_append_right _ (List.mem_map.2 ⟨p, hp, rfl⟩))))
theorem split_eq {α : Type} {l : List UInt8} : ∀ {xs ys xs' ys' : List (List UInt8 × α)} {a b : α}, xs ++ (l, a) :: ys = xs' ++ (l, b) :: ys' → l ∉ xs.map (·.1) → l ∉ xs'.map (·.1) → xs = xs' ∧ a = b ∧ ys = ys'
  | [], _, [], _, _, _, e, _, _ => by injection e with e1 e2; injection e1 with _ e3; exact ⟨rfl, e3, e2⟩
  | [], _, q :: r, _, _, _, e, _, h => by
    injection e with e1 e2
    exact absurd (by rw [← e1]; exact List.mem_cons_self) h
  | p :: r, _, [], _, _, _, e, h, _ => by
    injection e with e1 e2
    exact absurd (by rw [e1]; exact List.mem_cons_self) h
  | p :: r, _, q :: t, _, _, _, e, h, k => by
    injection e with e1 e2
    rw [List.map_cons, List.mem_cons, not_or] at h k
    obtain ⟨h1, h2, h3⟩ := split_eq e2 h.2 k.2
    exact ⟨by rw [e1, h1], h2, h3⟩
theorem Sm.fl {φ : Nat → Nat} {s1 s2 : DD} (h : Sm φ s1 s2) (n1 : ND s1) (n2 : ND s2) {l : List UInt8} {f g f' g' : FL} (hf : (l, f) ∈ s1.nf) (hg : (l, g) ∈ s2.nf) (he : abf φ f' = abf id g') (t : Nat) : Sm φ (flS s1 f.b f' t) (flS s2 g.b g' t) := by
  refine ⟨h.room, h.chs, ?_, h.of, h.las, rfl⟩
  obtain ⟨xs, ys, e1, m1, r1, _⟩ := n1.split hf
  obtain ⟨us, vs, e2, m2, r2, _⟩ := n2.split hg
  show (rpl s1.nf f.b f').map _ = (rpl s2.nf g.b g').map _
  have e := h.nf
  rw [e1, e2, List.map_append, List.map_append, List.map_cons, List.map_cons] at e
  obtain ⟨q1, _, q3⟩ := split_eq (l := l) (a := abf φ f) (b := abf id g) e (by rw [← fst_ab]; exact m1) (by rw [← fst_ab]; exact m2)
  rw [r1, r2, List.map_append, List.map_append, List.map_cons, List.map_cons, q1, q3]
  unfold abp
  rw [he]
end Go.Proofs.YtaibjeehjhlicaaGreatDoor
