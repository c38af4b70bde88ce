import Derived.Test.YtaibjeehjhlicaaGreatDoorQav
namespace Go.Proofs.YtaibjeehjhlicaaGreatDoor
open Go.RowKit Go.Shelf TextNum ModNum
/-- the error of a name that must have a file -/
def fnE (s : DD) (l : List UInt8) : Int := if isNm l = true then (if l ∈ s.nf.map (·.1) then 0 else 121) else 120
/-- an act's own error -/
def ownE (kd : Int) (nm to : ByteArray) (p : Int) (m : Nat) (s : DD) : Int :=
  if kd = 3 then nmE nm.data.toList
  else if kd = 4 then (if fnE s nm.data.toList = 0 then wrF s.room (usd s.nf) (nbOf s.nf nm.data.toList).length p m else fnE s nm.data.toList)
  else if kd = 6 then 0
  else if kd = 7 then (if nmE to.data.toList = 0 then fnE s nm.data.toList else 120)
  else fnE s nm.data.toList
/-- what an act does -/
def Eff (kd : Int) (nm to : ByteArray) (p : Int) (ds : List UInt8) (s s' : DD) : Prop :=
  if kd = 3 then ∃ F bp b2 vC vLo, s' = crS s nm F bp b2 vC vLo
  else if kd = 4 then ∃ f, (nm.data.toList, f) ∈ s.nf ∧ (ds = [] → s' = s) ∧ (ds ≠ [] → ∃ vn vo vk ba bk, s' = flS s f.b (wtF f p.toNat ds vn vo vk ba bk s.trn) (s.trn + 1))
  else if kd = 5 then ∃ f v, (nm.data.toList, f) ∈ s.nf ∧ s' = syS s f v
  else if kd = 6 then ∃ nL dl, s' = snS s nL dl
  else if kd = 7 then ∃ f b1 b2 vC vLo, (nm.data.toList, f) ∈ s.nf ∧ s' = rnS s nm to f b1 b2 vC vLo
  else ∃ f b2 vC vLo, (nm.data.toList, f) ∈ s.nf ∧ s' = rmS s nm b2 vC vLo
/-- the fault of the next act -/
def fau (s : DD) : Int := if s.unt = 1 then s.flt else 0
/-- what a call of an act answers -/
def erE (kd : Int) (nm to : ByteArray) (p : Int) (m : Nat) (s : DD) : Int := if s.dead = true then 125 else if ownE kd nm to p m s = 0 then fau s else ownE kd nm to p m s
/-- the disk behind a call of an act -/
def Stp (kd : Int) (nm to : ByteArray) (p : Int) (ds : List UInt8) (s s' : DD) : Prop :=
  (s.dead = true ∧ s' = s) ∨
  (s.dead = false ∧ ownE kd nm to p ds.length s ≠ 0 ∧ s' = acS s) ∨
  (s.dead = false ∧ ownE kd nm to p ds.length s = 0 ∧ fau s = 0 ∧ Eff kd nm to p ds (acS s) s') ∨
  (s.dead = false ∧ ownE kd nm to p ds.length s = 0 ∧ fau s = 125 ∧ ∃ s2, Eff kd nm to p ds (acS s) s2 ∧ s' = ddS s2) ∨
  (s.dead = false ∧ ownE kd nm to p ds.length s = 0 ∧ fau s ≠ 0 ∧ fau s ≠ 125 ∧ s' = acS s)
theorem DOk.nD {w : World} {B D T : Nat} {s : DD} (h : DOk w B D T s) : ND s := ⟨h.nd, h.fnd⟩
theorem Sm.fnE {φ : Nat → Nat} {s1 s2 : DD} (h : Sm φ s1 s2) (l : List UInt8) : Go.Proofs.YtaibjeehjhlicaaGreatDoor.fnE s1 l = Go.Proofs.YtaibjeehjhlicaaGreatDoor.fnE s2 l := by
  unfold Go.Proofs.YtaibjeehjhlicaaGreatDoor.fnE
  rw [h.names]
theorem Sm.own {φ : Nat → Nat} {s1 s2 : DD} (h : Sm φ s1 s2) (kd : Int) (nm to : ByteArray) (p : Int) (m : Nat) : ownE kd nm to p m s1 = ownE kd nm to p m s2 := by
  unfold ownE
  rw [h.fnE, h.usd, h.nbOf, h.room]
theorem Sm.set {φ : Nat → Nat} {s1 s2 : DD} (h : Sm φ s1 s2) (a1 u1 a2 u2 : Nat) (l1 l2 : Int) (d1 d2 : Bool) : Sm φ { s1 with acts := a1, unt := u1, flt := l1, dead := d1 } { s2 with acts := a2, unt := u2, flt := l2, dead := d2 } :=
  ⟨h.room, h.chs, h.nf, h.of, h.las, h.trn⟩
theorem crS_new {s : DD} (nd : (s.nf.map (·.1)).Nodup) {nm : ByteArray} {F bp b2 : Nat} {vC vLo : Value} (n : ND (crS s nm F bp b2 vC vLo)) : ∀ f ∈ fls s, f.b ≠ F := by
  have P := crS_perm (s := s) (nm := nm) (F := F) (bp := bp) (b2 := b2) (vC := vC) (vLo := vLo) nd
  have h2 := (P.map (·.b)).nodup_iff.1 n.2
  rw [List.map_cons, List.nodup_cons] at h2
  exact fun f hf e => h2.1 (List.mem_map.2 ⟨f, hf, e⟩)
/-- the same act on disks that are the same but for their memory -/
theorem Sm.eff {φ : Nat → Nat} {s1 s2 t1 t2 : DD} (h : Sm φ s1 s2) (c1 : CW s1) (n1 : ND s1) (n2 : ND s2) (m1 : ND t1) {kd : Int} {nm to : ByteArray} {p : Int} {ds : List UInt8} (e1 : Eff kd nm to p ds s1 t1) (e2 : Eff kd nm to p ds s2 t2) : ∃ ψ, Sm ψ t1 t2 := by
  unfold Eff at e1 e2
  by_cases k3 : kd = 3
  · rw [if_pos k3] at e1 e2
    obtain ⟨F1, a1, a2, a3, a4, rfl⟩ := e1
    obtain ⟨F2, b1, b2, b3, b4, rfl⟩ := e2
    exact ⟨_, h.cr c1 (crS_new n1.1 m1)⟩
  rw [if_neg k3] at e1 e2
  by_cases k4 : kd = 4
  · rw [if_pos k4] at e1 e2
    obtain ⟨f, hf, x1, y1⟩ := e1
    obtain ⟨g, hg, x2, y2⟩ := e2
    by_cases hd : ds = []
    · rw [x1 hd, x2 hd]
      exact ⟨φ, h⟩
    · obtain ⟨a1, a2, a3, a4, a5, rfl⟩ := y1 hd
      obtain ⟨b1, b2, b3, b4, b5, rfl⟩ := y2 hd
      have he := h.find n2.1 hf hg
      rw [h.trn]
      refine ⟨φ, h.fl n1 n2 hf hg ?_ _⟩
      show (⟨φ f.b, wr f.nb p.toNat ds, f.lb, (f.lo ++ [_]).map abl⟩ : AF) = ⟨id g.b, wr g.nb p.toNat ds, g.lb, (g.lo ++ [_]).map abl⟩
      rw [List.map_append, List.map_append, show φ f.b = id g.b from congrArg AF.i he, show f.nb = g.nb from congrArg AF.nb he, show f.lb = g.lb from congrArg AF.lb he, show f.lo.map abl = g.lo.map abl from congrArg AF.lo he]
      rfl
  rw [if_neg k4] at e1 e2
  by_cases k5 : kd = 5
  · rw [if_pos k5] at e1 e2
    obtain ⟨f, a1, hf, rfl⟩ := e1
    obtain ⟨g, b1, hg, rfl⟩ := e2
    have he := h.find n2.1 hf hg
    unfold syS
    rw [h.trn]
    refine ⟨φ, h.fl n1 n2 hf hg ?_ _⟩
    show (⟨φ f.b, f.nb, lay f.lb f.lo, []⟩ : AF) = ⟨id g.b, g.nb, lay g.lb g.lo, []⟩
    have hl : ∀ (lo : List LW) (lb : List UInt8), lay lb lo = (lo.map abl).foldl (fun acc l => wr acc l.1 l.2.1) lb := fun lo lb => by
      unfold lay
      rw [List.foldl_map]
      rfl
    rw [hl, hl, show φ f.b = id g.b from congrArg AF.i he, show f.nb = g.nb from congrArg AF.nb he, show f.lb = g.lb from congrArg AF.lb he, show f.lo.map abl = g.lo.map abl from congrArg AF.lo he]
  rw [if_neg k5] at e1 e2
  by_cases k6 : kd = 6
  · rw [if_pos k6] at e1 e2
    obtain ⟨a1, a2, rfl⟩ := e1
    obtain ⟨b1, b2, rfl⟩ := e2
    exact ⟨φ, h.sn⟩
  rw [if_neg k6] at e1 e2
  by_cases k7 : kd = 7
  · rw [if_pos k7] at e1 e2
    obtain ⟨f, a1, a2, a3, a4, hf, rfl⟩ := e1
    obtain ⟨g, b1, b2, b3, b4, hg, rfl⟩ := e2
    exact ⟨φ, h.rn (h.find n2.1 hf hg)⟩
  rw [if_neg k7] at e1 e2
  obtain ⟨f, a1, a2, a3, hf, rfl⟩ := e1
  obtain ⟨g, b1, b2, b3, hg, rfl⟩ := e2
  exact ⟨φ, h.rm⟩
theorem nmE_ok {l : List UInt8} (h : nmE l = 0) : isNm l = true := by
  unfold nmE at h
  split at h
  · assumption
  · cases h
theorem IV.eff {K : Nat} {s s' : DD} (h : IV K s) (n : ND s) (n' : ND s') (hnm : ∀ p ∈ s.nf, isNm p.1 = true) {kd : Int} {nm to : ByteArray} {p : Int} {ds : List UInt8} (hd : ds.length ≤ 1048576) (h0 : ownE kd nm to p ds.length s = 0) (e : Eff kd nm to p ds s s') : IV (K + 1) s' := by
  unfold Eff at e
  unfold ownE at h0
  by_cases k3 : kd = 3
  · rw [if_pos k3] at e h0
    obtain ⟨F, a1, a2, a3, a4, rfl⟩ := e
    exact h.cr n.1 (nmE_ok h0) (crS_new n.1 n')
  rw [if_neg k3] at e h0
  by_cases k4 : kd = 4
  · rw [if_pos k4] at e h0
    obtain ⟨f, hf, x1, y1⟩ := e
    by_cases hz : ds = []
    · rw [x1 hz]
      exact h.mono (Nat.le_succ K)
    · obtain ⟨a1, a2, a3, a4, a5, rfl⟩ := y1 hz
      have hw : wrF s.room (Go.Proofs.YtaibjeehjhlicaaGreatDoor.usd s.nf) (nbOf s.nf nm.data.toList).length p ds.length = 0 := by
        split at h0
        · exact h0
        · exact absurd h0 (by assumption)
      obtain ⟨p0, p1, _⟩ := wrF_ok hw
      exact (h.wt n hf (by omega) hd a1 a2 a3 a4 a5).mono (Nat.le_succ K)
  rw [if_neg k4] at e h0
  by_cases k5 : kd = 5
  · rw [if_pos k5] at e
    obtain ⟨f, a1, hf, rfl⟩ := e
    exact (h.sy n hf a1).mono (Nat.le_succ K)
  rw [if_neg k5] at e
  by_cases k6 : kd = 6
  · rw [if_pos k6] at e
    obtain ⟨a1, a2, rfl⟩ := e
    exact (h.sn hnm a1 a2).mono (Nat.le_succ K)
  rw [if_neg k6] at e h0
  by_cases k7 : kd = 7
  · rw [if_pos k7] at e h0
    obtain ⟨f, a1, a2, a3, a4, hf, rfl⟩ := e
    have ht : nmE to.data.toList = 0 := by
      split at h0
      · assumption
      · cases h0
    exact h.rn n.1 hf (nmE_ok ht)
  rw [if_neg k7] at e
  obtain ⟨f, a1, a2, a3, hf, rfl⟩ := e
  exact h.rm n.1
theorem ownE_ac (kd : Int) (nm to : ByteArray) (p : Int) (m : Nat) (s : DD) : ownE kd nm to p m (acS s) = ownE kd nm to p m s := rfl
theorem IV.stp {K : Nat} {s s' : DD} (h : IV K s) {kd : Int} {nm to : ByteArray} {p : Int} {ds : List UInt8} (hd : ds.length ≤ 1048576) (e : Stp kd nm to p ds s s') (n : ND s) (n' : ND s') (hnm : ∀ p ∈ s.nf, isNm p.1 = true) : IV (K + 1) s' := by
  have ha : IV K (acS s) := h.set _ _ _ _
  rcases e with ⟨_, rfl⟩ | ⟨_, _, rfl⟩ | ⟨_, h0, _, e⟩ | ⟨_, h0, _, s2, e, rfl⟩ | ⟨_, _, _, _, rfl⟩
  · exact h.mono (Nat.le_succ K)
  · exact ha.mono (Nat.le_succ K)
  · exact ha.eff n n' hnm hd h0 e
  · exact (ha.eff n (show ND s2 from n') hnm hd h0 e).set _ _ _ _
  · exact ha.mono (Nat.le_succ K)
/-- there is room for what acts write -/
theorem IV.room {K : Nat} {s : DD} (h : IV K s) (hr : s.room = 1099511627776) (hK : K ≤ 1000) {kd : Int} {nm to : ByteArray} {p : Int} {m : Nat} (hm : m ≤ 1048576) : ownE kd nm to p m s = 0 ∨ ownE kd nm to p m s = 1 ∨ ownE kd nm to p m s = 120 ∨ ownE kd nm to p m s = 121 := by
  have hu := h.usd
  have h1 : ∀ l, nmE l = 0 ∨ nmE l = 120 := fun l => by unfold nmE; split <;> simp
  have h2 : ∀ l, fnE s l = 0 ∨ fnE s l = 120 ∨ fnE s l = 121 := fun l => by
    unfold fnE
    split
    · split <;> simp
    · simp
  have h3 : ∀ n, wrF s.room (Go.Proofs.YtaibjeehjhlicaaGreatDoor.usd s.nf) n p m = 0 ∨ wrF s.room (Go.Proofs.YtaibjeehjhlicaaGreatDoor.usd s.nf) n p m = 1 := fun n => by
    unfold wrF
    split
    · simp
    · rename_i hp
      rw [if_neg]
      · simp
      · rintro ⟨_, hq⟩
        have : gro n p m ≤ p + m := by unfold gro; split <;> omega
        rw [hr] at hq
        have := Nat.mul_le_mul_right 2097152 hK
        omega
  by_cases k3 : kd = 3
  · have e : ownE kd nm to p m s = nmE nm.data.toList := if_pos k3
    rw [e]
    rcases h1 nm.data.toList with q | q <;> simp [q]
  by_cases k4 : kd = 4
  · have e : ownE kd nm to p m s = if fnE s nm.data.toList = 0 then wrF s.room (Go.Proofs.YtaibjeehjhlicaaGreatDoor.usd s.nf) (nbOf s.nf nm.data.toList).length p m else fnE s nm.data.toList := by
      unfold ownE; rw [if_neg k3, if_pos k4]
    rw [e]
    rcases h2 nm.data.toList with q | q | q
    · rw [if_pos q]
      rcases h3 (nbOf s.nf nm.data.toList).length with r | r <;> simp [r]
    · rw [if_neg (by rw [q]; decide)]; simp [q]
    · rw [if_neg (by rw [q]; decide)]; simp [q]
  by_cases k6 : kd = 6
  · have e : ownE kd nm to p m s = 0 := by
      unfold ownE; rw [if_neg k3, if_neg k4, if_pos k6]
    simp [e]
  by_cases k7 : kd = 7
  · have e : ownE kd nm to p m s = if nmE to.data.toList = 0 then fnE s nm.data.toList else 120 := by
      unfold ownE; rw [if_neg k3, if_neg k4, if_neg k6, if_pos k7]
    rw [e]
    split
    · rcases h2 nm.data.toList with q | q | q <;> simp [q]
    · simp
  have e : ownE kd nm to p m s = fnE s nm.data.toList := by
    unfold ownE; rw [if_neg k3, if_neg k4, if_neg k6, if_neg k7]
  rw [e]
  rcases h2 nm.data.toList with q | q | q <;> simp [q]
end Go.Proofs.YtaibjeehjhlicaaGreatDoor
namespace Go.Proofs.YtaibjeehjhlicaaGreatDoor
open Go.RowKit Go.Shelf TextNum ModNum
/-- behind an act: the disk, whose blocks it has, what it left -/
def AftX (w w' : World) (B D T : Nat) (s s' : DD) : Prop := DOk w' B D (T + 3) s' ∧ Nw w.heap.size D s s' ∧ Fr (own D s) w w'
theorem Aft.x {w w' : World} {B D T : Nat} {s s' : DD} (h : Aft w w' B D T s s') (hT : T + 3 ≤ 100000) : AftX w w' B D T s s' := ⟨h.1.more (Nat.le_succ _) hT, h.2⟩
/-- the machine died behind the act -/
theorem AftX.died {w w1 : World} {B D T : Nat} {s s2 : DD} (h : Aft w w1 B D T s s2) (hT : T + 3 ≤ 100000) : AftX w (w1.setCell ⟨D, 2, none⟩ (.bool true)) B D T s (ddS s2) := by
  have g := grown_at w1 D 2 (.bool true)
  have f1 : Fr (fun k => k = D) w1 (w1.setCell ⟨D, 2, none⟩ (.bool true)) := (Fr.refl _ w1).by g (fun k hk => .inl (Option.some.inj hk).symm)
  refine ⟨h.1.died f1 (h.1.disk.set 2 (.bool true)) hT, fun k hk => h.2.1 k hk, h.2.2.by g (fun k hk => .inl (.inl (Option.some.inj hk).symm))⟩
theorem DOk.lfile {w : World} {B D T : Nat} {s : DD} (h : DOk w B D T s) {f : FL} (hf : f ∈ fls s) : ∀ k ∈ fbs f, ¬ (k = D ∨ k = s.L) := fun k hk e => by
  rcases e with rfl | rfl
  · exact h.fout (h.fok f hf) hk (.inl rfl)
  · exact (h.fok f hf).out hk (map_tg h.mlas) (fun e _ => by simp)
/-- the names last -/
theorem DOk.sn {w w' : World} {B D T : Nat} {s : DD} (h : DOk w B D T s) (nL : Nat) (dl : DataW Unit) (k : Fr (fun k => k = D ∨ k = s.L) w w') (hd : At w' D 85 (dcl (snS s nL dl))) (hM : OM w' s.L nL dl) (hI : MIs dl (nrun s.chs s.las)) (hn : nL ≤ s.nL + s.chs.length) (hn0 : s.n0 + s.chs.length ≤ 1000000) (hT : T + 1 ≤ 100000) :
    DOk w' B D (T + 1) (snS s nL dl) ∧ Nw w.heap.size D s (snS s nL dl) := by
  have hsub : ∀ f ∈ fls (snS s nL dl), f ∈ fls s := fun f hf => by
    have hf : f ∈ s.nf.map (·.2) ++ [] := hf
    rw [List.append_nil] at hf
    exact List.mem_append_left _ hf
  have hfd : fls (snS s nL dl) = s.nf.map (·.2) := by
    show s.nf.map (·.2) ++ [] = _
    rw [List.append_nil]
  obtain ⟨n1, n2, n3, n4, n5, n6, n7, n8, n9, n10, n11⟩ := h.num
  have hl5 : lsd (fls (snS s nL dl)) ≤ T := by
    rw [hfd]
    have : lsd (fls s) = lsd (s.nf.map (·.2)) + lsd s.of := by unfold fls; rw [lsd_append]
    omega
  refine ⟨⟨ml_fr h.ml k h.hB h.low.1 (fun e => ?_), h.low, Nat.le_trans h.hB k.size, hd, k.map h.mnow (fun e => ?_), h.isn, h.nd, h.nms, hM, hI, h.neq, World.ownsRow_nil _ _ _ _, World.ownsRow_nil _ _ _ _, (fun c hc => by cases hc), (fun c hc => by cases hc), fun f hf => (h.fok f (hsub f hf)).fr k (h.lfile (hsub f hf)), ?_, fun f hf g hg => h.apart f (hsub f hf) g (hsub g hg), fun f hf => ?_, ?_⟩, fun b hb => ?_⟩
  · have := h.low
    rcases e with e | e <;> omega
  · have e : s.M = D ∨ s.M = s.L := e
    rcases e with e | e
    · have := map_tg h.mnow; rw [e, h.disk.tg] at this; cases this
    · exact h.neq e
  · have h2 := h.fnd
    rw [hfd]
    unfold fls at h2
    rw [List.map_append, List.nodup_append] at h2
    exact h2.1
  · have := h.sz f (hsub f hf); omega
  · show 0 ≤ T + 1 ∧ 0 ≤ T + 1 ∧ s.trn ≤ T + 1 ∧ s.acts ≤ T + 1 ∧ lsd (fls (snS s nL dl)) ≤ T + 1 ∧ s.nM ≤ s.n0 + s.chs.length + (T + 1) ∧ nL ≤ s.n0 + s.chs.length + (T + 1) ∧ T + 1 ≤ 100000 ∧ s.n0 + s.chs.length ≤ 1000000 ∧ s.room ≤ 1099511627776 ∧ usd s.nf ≤ 1099511627776
    omega
  · rcases hb with hb | hb | hb | hb | hb | ⟨f, hf, hb⟩ | ⟨c, hc, hb⟩
    · exact .inl (.inl hb)
    · exact .inl (.inr (.inl hb))
    · exact .inl (.inr (.inr (.inl hb)))
    · cases hb
    · cases hb
    · exact .inl (.inr (.inr (.inr (.inr (.inr (.inl ⟨f, hsub f hf, hb⟩))))))
    · cases hc
end Go.Proofs.YtaibjeehjhlicaaGreatDoor
