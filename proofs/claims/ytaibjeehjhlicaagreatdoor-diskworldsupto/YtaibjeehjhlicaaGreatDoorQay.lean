import Derived.Test.YtaibjeehjhlicaaGreatDoorQbt
namespace Go.Proofs.YtaibjeehjhlicaaGreatDoor
open Go.RowKit Go.Shelf TextNum ModNum
/-- an act's doing leaves the counts -/
theorem Eff.same {kd : Int} {nm to : ByteArray} {p : Int} {ds : List UInt8} {s s' : DD} (e : Eff kd nm to p ds s s') : s'.room = s.room ∧ s'.acts = s.acts ∧ s'.unt = s.unt ∧ s'.flt = s.flt ∧ s'.dead = s.dead := by
  unfold Eff at e
  split at e
  · obtain ⟨_, _, _, _, _, rfl⟩ := e
    exact ⟨rfl, rfl, rfl, rfl, rfl⟩
  split at e
  · obtain ⟨f, _, x1, y1⟩ := e
    by_cases hd : ds = []
    · rw [x1 hd]; exact ⟨rfl, rfl, rfl, rfl, rfl⟩
    · obtain ⟨_, _, _, _, _, rfl⟩ := y1 hd
      exact ⟨rfl, rfl, rfl, rfl, rfl⟩
  split at e
  · obtain ⟨_, _, _, rfl⟩ := e
    exact ⟨rfl, rfl, rfl, rfl, rfl⟩
  split at e
  · obtain ⟨_, _, rfl⟩ := e
    exact ⟨rfl, rfl, rfl, rfl, rfl⟩
  split at e
  · obtain ⟨_, _, _, _, _, _, rfl⟩ := e
    exact ⟨rfl, rfl, rfl, rfl, rfl⟩
  · obtain ⟨_, _, _, _, _, rfl⟩ := e
    exact ⟨rfl, rfl, rfl, rfl, rfl⟩
/-- a call counts -/
theorem Stp.cnt {kd : Int} {nm to : ByteArray} {p : Int} {ds : List UInt8} {s s' : DD} (h : Stp kd nm to p ds s s') (hd : s.dead = false) : s'.room = s.room ∧ s'.acts = s.acts + 1 ∧ s'.unt = s.unt - 1 ∧ s'.flt = s.flt := by
  rcases h with ⟨h1, _⟩ | ⟨_, _, rfl⟩ | ⟨_, _, _, e⟩ | ⟨_, _, _, s2, e, rfl⟩ | ⟨_, _, _, _, rfl⟩
  · rw [hd] at h1; cases h1
  · exact ⟨rfl, rfl, rfl, rfl⟩
  · obtain ⟨a, b, c, d, _⟩ := e.same; exact ⟨a, b, c, d⟩
  · obtain ⟨a, b, c, d, _⟩ := e.same; exact ⟨a, b, c, d⟩
  · exact ⟨rfl, rfl, rfl, rfl⟩
theorem Stp.room {kd : Int} {nm to : ByteArray} {p : Int} {ds : List UInt8} {s s' : DD} (h : Stp kd nm to p ds s s') : s'.room = s.room := by
  cases hd : s.dead with
  | false => exact (h.cnt hd).1
  | true =>
    rcases h with ⟨_, rfl⟩ | ⟨h1, _⟩ | ⟨h1, _⟩ | ⟨h1, _⟩ | ⟨h1, _⟩
    · rfl
    all_goals (rw [hd] at h1; cases h1)
theorem Stp.isdead {kd : Int} {nm to : ByteArray} {p : Int} {ds : List UInt8} {s s' : DD} (h : Stp kd nm to p ds s s') (hd : s.dead = true) : s' = s := by
  rcases h with ⟨_, rfl⟩ | ⟨h1, _⟩ | ⟨h1, _⟩ | ⟨h1, _⟩ | ⟨h1, _⟩
  · rfl
  all_goals (rw [hd] at h1; cases h1)
theorem Stp.own {kd : Int} {nm to : ByteArray} {p : Int} {ds : List UInt8} {s s' : DD} (h : Stp kd nm to p ds s s') (hd : s.dead = false) (h0 : ownE kd nm to p ds.length s ≠ 0) : s' = acS s := by
  rcases h with ⟨h1, _⟩ | ⟨_, _, rfl⟩ | ⟨_, h1, _⟩ | ⟨_, h1, _⟩ | ⟨_, h1, _⟩
  · rw [hd] at h1; cases h1
  · rfl
  all_goals exact absurd h1 h0
theorem Stp.done {kd : Int} {nm to : ByteArray} {p : Int} {ds : List UInt8} {s s' : DD} (h : Stp kd nm to p ds s s') (hd : s.dead = false) (h0 : ownE kd nm to p ds.length s = 0) (hf : fau s = 0) : Eff kd nm to p ds (acS s) s' := by
  rcases h with ⟨h1, _⟩ | ⟨_, h1, _⟩ | ⟨_, _, _, e⟩ | ⟨_, _, h1, _⟩ | ⟨_, _, h1, _⟩
  · rw [hd] at h1; cases h1
  · exact absurd h0 h1
  · exact e
  · rw [hf] at h1; cases h1
  · exact absurd hf h1
theorem Stp.dies {kd : Int} {nm to : ByteArray} {p : Int} {ds : List UInt8} {s s' : DD} (h : Stp kd nm to p ds s s') (hd : s.dead = false) (h0 : ownE kd nm to p ds.length s = 0) (hf : fau s = 125) : ∃ s2, Eff kd nm to p ds (acS s) s2 ∧ s' = ddS s2 := by
  rcases h with ⟨h1, _⟩ | ⟨_, h1, _⟩ | ⟨_, _, h1, _⟩ | ⟨_, _, _, e⟩ | ⟨_, _, _, h1, _⟩
  · rw [hd] at h1; cases h1
  · exact absurd h0 h1
  · rw [hf] at h1; cases h1
  · exact e
  · exact absurd hf h1
theorem Stp.bad {kd : Int} {nm to : ByteArray} {p : Int} {ds : List UInt8} {s s' : DD} (h : Stp kd nm to p ds s s') (hd : s.dead = false) (h0 : ownE kd nm to p ds.length s = 0) (hf : fau s ≠ 0) (hf2 : fau s ≠ 125) : s' = acS s := by
  rcases h with ⟨h1, _⟩ | ⟨_, h1, _⟩ | ⟨_, _, h1, _⟩ | ⟨_, _, h1, _⟩ | ⟨_, _, _, _, rfl⟩
  · rw [hd] at h1; cases h1
  · exact absurd h0 h1
  · exact absurd h1 hf
  · exact absurd h1 hf2
  · rfl
/-- a machine that is not to die lives on -/
theorem Stp.lives {kd : Int} {nm to : ByteArray} {p : Int} {ds : List UInt8} {s s' : DD} (h : Stp kd nm to p ds s s') (hd : s.dead = false) (hf : fau s ≠ 125) : s'.dead = false := by
  rcases h with ⟨h1, _⟩ | ⟨_, _, rfl⟩ | ⟨_, _, _, e⟩ | ⟨_, _, h1, _⟩ | ⟨_, _, _, _, rfl⟩
  · rw [hd] at h1; cases h1
  · exact hd
  · rw [e.same.2.2.2.2]; exact hd
  · exact absurd h1 hf
  · exact hd
theorem erE_live {kd : Int} {nm to : ByteArray} {p : Int} {m : Nat} {s : DD} (hd : s.dead = false) : erE kd nm to p m s = if ownE kd nm to p m s = 0 then fau s else ownE kd nm to p m s := by
  unfold erE
  rw [hd, if_neg (by decide)]
theorem erE_dead {kd : Int} {nm to : ByteArray} {p : Int} {m : Nat} {s : DD} (hd : s.dead = true) : erE kd nm to p m s = 125 := if_pos hd
/-- behind a call that is made a little later -/
theorem AftX.up {w w1 w2 : World} {B D T : Nat} {s s' : DD} (u : Up w w1) (h : AftX w1 w2 B D T s s') : AftX w w2 B D T s s' :=
  ⟨h.1, fun k hk => (h.2.1 k hk).imp id (fun q => Nat.le_trans u.size q), ((Fr.refl (Go.Proofs.YtaibjeehjhlicaaGreatDoor.own D s) w).up u).trans h.2.2 (fun _ hg => .inl hg)⟩
/-- what a script's acts keep of a disk of one's own -/
structure BJ (W w : World) (D T K : Nat) (s : DD) : Prop where
  ok : DOk w W.heap.size D T s
  up : Up W w
  lo : ∀ k, own D s k → W.heap.size ≤ k
  iv : IV K s
theorem BJ.upTo {W w w' : World} {D T K : Nat} {s : DD} (h : BJ W w D T K s) (u : Up w w') : BJ W w' D T K s := ⟨h.ok.up u, h.up.trans u, h.lo, h.iv⟩
theorem BJ.stp {W w w' : World} {D T K : Nat} {s s' : DD} {kd : Int} {nm to : ByteArray} {p : Int} {ds : List UInt8} (h : BJ W w D T K s) (a : AftX w w' W.heap.size D T s s') (e : Stp kd nm to p ds s s') (hd : ds.length ≤ 1048576) : BJ W w' D (T + 3) (K + 1) s' :=
  ⟨a.1, up_disk h.up h.lo a.2.2, lo_disk h.up h.lo a.2.1, h.iv.stp hd e h.ok.nD a.1.nD h.ok.nms⟩
theorem nwS_iv (room M L : Nat) : IV 0 (nwS room M L) :=
  ⟨⟨⟨NFit.nil _, (fun k l b e => by
    rw [List.take_nil] at e
    cases e), (fun k l l' b e => by
    rw [List.take_nil] at e
    cases e)⟩, rfl⟩, ⟨(fun f hf => by cases hf), (fun f hf => by cases hf)⟩, (fun f hf => by cases hf), (fun f hf => by cases hf), Nat.le_refl _, Nat.le_refl _⟩
/-- the counts of a call are set -/
abbrev faS (s : DD) (n : Int) (e : Int) : DD := { s with acts := s.acts, unt := n.toNat, flt := e, dead := s.dead }
end Go.Proofs.YtaibjeehjhlicaaGreatDoor
namespace Go.Proofs.YtaibjeehjhlicaaGreatDoor
open Go.RowKit Go.Shelf TextNum ModNum
theorem mem_rpl_other {nf : List (List UInt8 × FL)} {b : Nat} {f' : FL} {p : List UInt8 × FL} (hp : p ∈ nf) (h : p.2.b ≠ b) : p ∈ rpl nf b f' :=
  List.mem_map.2 ⟨p, hp, if_neg h⟩
theorem mem_rpl_same {nf : List (List UInt8 × FL)} {l : List UInt8} {f f' : FL} (hp : (l, f) ∈ nf) : (l, f') ∈ rpl nf f.b f' :=
  List.mem_map.2 ⟨(l, f), hp, if_pos rfl⟩
theorem rpl_names {nf : List (List UInt8 × FL)} {b : Nat} {f' : FL} : (rpl nf b f').map (·.1) = nf.map (·.1) := rpl_keys nf b f'
theorem mem_drp_other {nf : List (List UInt8 × FL)} {l : List UInt8} {p : List UInt8 × FL} (hp : p ∈ nf) (h : p.1 ≠ l) : p ∈ drp nf l := mem_drp.2 ⟨hp, h⟩
theorem mem_rpl {nf : List (List UInt8 × FL)} {b : Nat} {f' : FL} {p : List UInt8 × FL} (hp : p ∈ rpl nf b f') : (∃ q ∈ nf, q.2.b = b ∧ p = (q.1, f')) ∨ (p ∈ nf ∧ p.2.b ≠ b) := by
  obtain ⟨q, hq, e⟩ := List.mem_map.1 hp
  by_cases h : q.2.b = b
  · rw [if_pos h] at e
    exact .inl ⟨q, hq, h, e.symm⟩
  · rw [if_neg h] at e
    subst e
    exact .inr ⟨hq, h⟩
theorem fnE_mem {s : DD} (hnm : ∀ p ∈ s.nf, isNm p.1 = true) {l : List UInt8} {f : FL} (hf : (l, f) ∈ s.nf) : fnE s l = 0 := by
  unfold fnE
  rw [if_pos (hnm _ hf), if_pos (List.mem_map_of_mem hf)]
/-- there is always room for a write of a message -/
theorem wrF_room {s : DD} {K : Nat} (h : IV K s) (hr : s.room = 1099511627776) (hK : K ≤ 1000) {n m : Nat} (hm : m ≤ 1048576) : wrF s.room (usd s.nf) n 0 m = 0 := by
  unfold wrF
  rw [if_neg (by omega), if_neg]
  rintro ⟨_, hq⟩
  have : gro n 0 m ≤ m := by unfold gro; split <;> omega
  rw [hr] at hq
  have hu := h.usd
  have := Nat.mul_le_mul_right 2097152 hK
  omega
theorem eff_cr {nm to : ByteArray} {p : Int} {ds : List UInt8} {s s' : DD} (e : Eff 3 nm to p ds s s') : ∃ F bp b2 vC vLo, s' = crS s nm F bp b2 vC vLo := by
  unfold Eff at e; rw [if_pos rfl] at e; exact e
theorem eff_wr {nm to : ByteArray} {p : Int} {ds : List UInt8} {s s' : DD} (e : Eff 4 nm to p ds s s') : ∃ f, (nm.data.toList, f) ∈ s.nf ∧ (ds = [] → s' = s) ∧ (ds ≠ [] → ∃ vn vo vk ba bk, s' = flS s f.b (wtF f p.toNat ds vn vo vk ba bk s.trn) (s.trn + 1)) := by
  unfold Eff at e; rw [if_neg (by decide), if_pos rfl] at e; exact e
theorem eff_sy {nm to : ByteArray} {p : Int} {ds : List UInt8} {s s' : DD} (e : Eff 5 nm to p ds s s') : ∃ f v, (nm.data.toList, f) ∈ s.nf ∧ s' = syS s f v := by
  unfold Eff at e; rw [if_neg (by decide), if_neg (by decide), if_pos rfl] at e; exact e
theorem eff_sn {nm to : ByteArray} {p : Int} {ds : List UInt8} {s s' : DD} (e : Eff 6 nm to p ds s s') : ∃ nL dl, s' = snS s nL dl := by
  unfold Eff at e; rw [if_neg (by decide), if_neg (by decide), if_neg (by decide), if_pos rfl] at e; exact e
theorem eff_rn {nm to : ByteArray} {p : Int} {ds : List UInt8} {s s' : DD} (e : Eff 7 nm to p ds s s') : ∃ f b1 b2 vC vLo, (nm.data.toList, f) ∈ s.nf ∧ s' = rnS s nm to f b1 b2 vC vLo := by
  unfold Eff at e; rw [if_neg (by decide), if_neg (by decide), if_neg (by decide), if_neg (by decide), if_pos rfl] at e; exact e
/-- a file of this name, with these bytes, and whether it is synced -/
def Has (s : DD) (l : List UInt8) (ds : List UInt8) (sy : Bool) : Prop := ∃ f, (l, f) ∈ s.nf ∧ f.nb = ds ∧ (sy = true → f.lo = [] ∧ f.lb = ds)
theorem Has.lives {s : DD} {l ds : List UInt8} {b : Bool} (h : Has s l ds b) (hnm : ∀ p ∈ s.nf, isNm p.1 = true) : fnE s l = 0 := by
  obtain ⟨f, hf, _⟩ := h
  exact fnE_mem hnm hf
theorem Has.loose {s : DD} {l ds : List UInt8} {b : Bool} (h : Has s l ds b) : Has s l ds false := by
  obtain ⟨f, hf, e, _⟩ := h
  exact ⟨f, hf, e, fun h => by cases h⟩
theorem Has.cr {s s' : DD} {nm to : ByteArray} {p : Int} {ds : List UInt8} (e : Eff 3 nm to p ds s s') : Has s' nm.data.toList [] false := by
  obtain ⟨F, bp, b2, vC, vLo, rfl⟩ := eff_cr e
  exact ⟨fnew F, List.mem_append_right _ (List.mem_singleton.2 rfl), rfl, fun h => by cases h⟩
theorem Has.cr_other {s s' : DD} {nm to : ByteArray} {p : Int} {ds : List UInt8} {l xs : List UInt8} {b : Bool} (e : Eff 3 nm to p ds s s') (h : Has s l xs b) (hl : l ≠ nm.data.toList) : Has s' l xs b := by
  obtain ⟨F, bp, b2, vC, vLo, rfl⟩ := eff_cr e
  obtain ⟨f, hf, h1, h2⟩ := h
  exact ⟨f, List.mem_append_left _ (mem_drp_other hf hl), h1, h2⟩
theorem Has.wr {s s' : DD} (n : ND s) {nm to : ByteArray} {ds xs : List UInt8} {b : Bool} {p : Int} (e : Eff 4 nm to p ds s s') (h : Has s nm.data.toList xs b) : Has s' nm.data.toList (if ds = [] then xs else Go.Proofs.YtaibjeehjhlicaaGreatDoor.wr xs p.toNat ds) false := by
  obtain ⟨f, hf, x1, y1⟩ := eff_wr e
  obtain ⟨g, hg, h1, _⟩ := h
  obtain rfl := nd_val n.1 hf hg
  by_cases hd : ds = []
  · rw [x1 hd, if_pos hd]
    exact ⟨f, hf, h1, fun h => by cases h⟩
  · obtain ⟨vn, vo, vk, ba, bk, rfl⟩ := y1 hd
    rw [if_neg hd]
    exact ⟨_, mem_rpl_same hf, by rw [← h1], fun h => by cases h⟩
theorem Has.fl_other {s : DD} (n : ND s) {l0 : List UInt8} {f f' : FL} (hf : (l0, f) ∈ s.nf) {t : Nat} {l xs : List UInt8} {b : Bool} (h : Has s l xs b) (hl : l ≠ l0) : Has (flS s f.b f' t) l xs b := by
  obtain ⟨g, hg, h1, h2⟩ := h
  refine ⟨g, mem_rpl_other hg (fun e => hl ?_), h1, h2⟩
  have := nd_inj n.nfb hg hf e
  injection this
theorem Has.wr_other {s s' : DD} (n : ND s) {nm to : ByteArray} {ds l xs : List UInt8} {b : Bool} {p : Int} (e : Eff 4 nm to p ds s s') (h : Has s l xs b) (hl : l ≠ nm.data.toList) : Has s' l xs b := by
  obtain ⟨f, hf, x1, y1⟩ := eff_wr e
  by_cases hd : ds = []
  · rw [x1 hd]; exact h
  · obtain ⟨vn, vo, vk, ba, bk, rfl⟩ := y1 hd
    exact h.fl_other n hf hl
theorem Has.sy {s s' : DD} (n : ND s) (hly : ∀ f ∈ fls s, lay f.lb f.lo = f.nb) {nm to : ByteArray} {ds xs : List UInt8} {b : Bool} {p : Int} (e : Eff 5 nm to p ds s s') (h : Has s nm.data.toList xs b) : Has s' nm.data.toList xs true := by
  obtain ⟨f, v, hf, rfl⟩ := eff_sy e
  obtain ⟨g, hg, h1, _⟩ := h
  obtain rfl := nd_val n.1 hf hg
  exact ⟨_, mem_rpl_same hf, h1, fun _ => ⟨rfl, (hly f (mem_fls_nf hf)).trans h1⟩⟩
theorem Has.sy_other {s s' : DD} (n : ND s) {nm to : ByteArray} {ds l xs : List UInt8} {b : Bool} {p : Int} (e : Eff 5 nm to p ds s s') (h : Has s l xs b) (hl : l ≠ nm.data.toList) : Has s' l xs b := by
  obtain ⟨f, v, hf, rfl⟩ := eff_sy e
  exact h.fl_other n hf hl
theorem Has.sn {s s' : DD} {nm to : ByteArray} {ds l xs : List UInt8} {b : Bool} {p : Int} (e : Eff 6 nm to p ds s s') (h : Has s l xs b) : Has s' l xs b := by
  obtain ⟨nL, dl, rfl⟩ := eff_sn e
  exact h
theorem Has.rn {s s' : DD} (n : ND s) {nm to : ByteArray} {ds xs : List UInt8} {b : Bool} {p : Int} (e : Eff 7 nm to p ds s s') (h : Has s nm.data.toList xs b) : Has s' to.data.toList xs b := by
  obtain ⟨f, b1, b2, vC, vLo, hf, rfl⟩ := eff_rn e
  obtain ⟨g, hg, h1, h2⟩ := h
  obtain rfl := nd_val n.1 hf hg
  exact ⟨f, List.mem_append_right _ (List.mem_singleton.2 rfl), h1, h2⟩
theorem wr_zero (xs : List UInt8) : wr [] 0 xs = xs := wr_nil xs
/-- nothing of the names is loose -/
def Settled (s : DD) : Prop := s.chs = [] ∧ s.of = [] ∧ s.las = nmOf s.nf
theorem Settled.sn {s s' : DD} (hc : CW s) {nm to : ByteArray} {ds : List UInt8} {p : Int} (e : Eff 6 nm to p ds s s') : Settled s' := by
  obtain ⟨nL, dl, rfl⟩ := eff_sn e
  exact ⟨rfl, rfl, hc.now⟩
theorem lfs_has {s : DD} {cs : List Int} {gs : LG} {ws : List WL} (h : LF s cs gs ws) (n : ND s) {l ds : List UInt8} {f : FL} (hf : f ∈ fls s) (hn : nrun (s.chs.take (cz cs 0 s.chs.length)) s.las l = some f.b) (hl : f.lo = []) (hb : f.lb = ds) : (l, ds) ∈ srF (lfs cs 1 gs ws) := by
  rw [srF_mem h.ndl, ← hb]
  exact h.quiet n hf hn hl
end Go.Proofs.YtaibjeehjhlicaaGreatDoor
