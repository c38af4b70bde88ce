import Derived.Test.YtaibjeehjhlicaaGreatDoorQbe
namespace Go.Proofs.YtaibjeehjhlicaaGreatDoor
open Go.RowKit Go.Shelf TextNum ModNum
/-- a loose write -/
structure LW where
  p : Nat
  ds : List UInt8
  ba : Nat
  bk : Nat
  vk : Value
  tn : Int
/-- a disk with the one file f -/
structure DS where
  vn : Value
  vl : Value
  vo : Value
  vL : Value
  vC : Value
  nb : List UInt8
  lb : List UInt8
  lo : List LW
  trn : Int
  acts : Int
  room : Nat
def lcs (l : List LW) : List Value := l.flatMap fun l => lwc l.tn l.ds.length l.ba l.bk
abbrev dcs (M : Nat) (s : DS) : List Value := [.int .i64 (s.room : Int), .int .i64 (s.nb.length : Int), .bool false, .map (some M), s.vL, s.vC, .slice none 0 0, .int .i64 (s.lo.length : Int), .int .i64 s.trn, .int .i64 s.acts, .int .i64 0, .int .i64 0]
structure LOk (w : World) (B : Nat) (vn vl : Value) (l : LW) : Prop where
  pa : At w l.ba 3 [.int .i64 (l.p : Int)]
  pk : At w l.bk 41 [l.vk]
  own : Ow w B l.vk l.ds
  ap : ∀ g, l.vk.ownBlock = some g → vn.ownBlock ≠ some g ∧ vl.ownBlock ≠ some g
  len : l.p + l.ds.length ≤ 1099511627776
structure Inv (w : World) (B D M F T : Nat) (s : DS) : Prop where
  ml : ML w
  low : 0 < B ∧ B ≤ D ∧ B ≤ M ∧ B ≤ F
  hB : B ≤ w.heap.size
  disk : At w D 85 (dcs M s)
  map : OM w M 1 (D1 F)
  file : At w F 95 [s.vn, s.vl, s.vo]
  now : Ow w B s.vn s.nb
  last : Ow w B s.vl s.lb
  apart : ∀ g, s.vn.ownBlock = some g → s.vl.ownBlock ≠ some g
  loose : w.ownsRow B 144 3 s.vo s.lo.length (lcs s.lo)
  each : ∀ l ∈ s.lo, LOk w B s.vn s.vl l
  room : s.room ≤ 4000
  nbl : s.nb.length ≤ s.room
  lbl : s.lb.length ≤ 1099511627776
  num : s.lo.length ≤ T ∧ 0 ≤ s.trn ∧ s.trn ≤ T ∧ 0 ≤ s.acts ∧ s.acts ≤ 2 * T + 1 ∧ T ≤ 100000
theorem LOk.up {w w' : World} {B : Nat} {vn vl : Value} {l : LW} (h : LOk w B vn vl l) (k : Up w w') : LOk w' B vn vl l := ⟨h.pa.up k, h.pk.up k, ow_up h.own k, h.ap, h.len⟩
theorem Inv.up {w w' : World} {B D M F T : Nat} {s : DS} (h : Inv w B D M F T s) (k : Up w w') : Inv w' B D M F T s :=
  ⟨h.ml.up k, h.low, Nat.le_trans h.hB k.size, h.disk.up k, h.map.up k, h.file.up k, ow_up h.now k, ow_up h.last k, h.apart, ow_up h.loose k, fun l hl => (h.each l hl).up k, h.room, h.nbl, h.lbl, h.num⟩
/-- what is new of a state -/
structure Nx (w : World) (s s' : DS) : Prop where
  vn : Frs w s.vn s'.vn
  vl : Frs w s.vl s'.vl
  lo : ∀ l ∈ s'.lo, l ∈ s.lo ∨ ∀ g, l.vk.ownBlock = some g → w.heap.size ≤ g
  room : s'.room = s.room
def Sd (D F : Nat) (s : DS) (k : Nat) : Prop := k = D ∨ k = F ∨ s.vn.ownBlock = some k ∨ s.vl.ownBlock = some k ∨ s.vo.ownBlock = some k
theorem Frs.refl (w : World) (v : Value) : Frs w v v := fun _ h => .inl h
theorem Nx.refl (w : World) (s : DS) : Nx w s s := ⟨Frs.refl _ _, Frs.refl _ _, fun _ h => .inl h, rfl⟩
theorem map_ne {w : World} {M n b : Nat} {D : DataW Unit} {t : TypeId} {cs : List Value} (h : OM w M n D) (k : At w b t cs) : M ≠ b := fun e => by
  subst e
  obtain ⟨es, cl, hb, _⟩ := h
  unfold At at k
  rw [hb] at k
  injection k with k
  cases k
theorem map_own {w : World} {M n B m q : Nat} {D : DataW Unit} {e : TypeId} {v : Value} {xs : List Value} (h : OM w M n D) (k : w.ownsRow B e m v q xs) : v.ownBlock ≠ some M := fun hb => by
  obtain ⟨es, cl, hm, _⟩ := h
  rcases k.2 with ⟨rfl, _⟩ | ⟨g, cap, cur, rfl, _, hg, _⟩
  · cases hb
  · obtain rfl : g = M := Option.some.inj hb
    rw [hm] at hg
    injection hg with hg
    cases hg
/-- the disk's own cells were turned alone -/
theorem Inv.disked {w w' : World} {B D M F T T' : Nat} {s s' : DS} (h : Inv w B D M F T s) (k : w.grownBy w' (some D)) (hd : At w' D 85 (dcs M s')) (h1 : s'.vn = s.vn) (h2 : s'.vl = s.vl) (h3 : s'.vo = s.vo) (h4 : s'.nb = s.nb) (h5 : s'.lb = s.lb) (h6 : s'.lo = s.lo) (h7 : s'.room = s.room)
    (hn : s'.lo.length ≤ T' ∧ 0 ≤ s'.trn ∧ s'.trn ≤ T' ∧ 0 ≤ s'.acts ∧ s'.acts ≤ 2 * T' + 1 ∧ T' ≤ 100000) : Inv w' B D M F T' s' := by
  obtain ⟨m, hm⟩ := h.ml
  refine ⟨⟨m, k.cell hm (fun e => by have := h.low; have e2 := Option.some.inj e; simp at e2; omega)⟩, h.low, Nat.le_trans h.hB k.size, hd, World.ownsMap.kept h.map k (fun e => map_ne h.map h.disk (Option.some.inj e)), ?_, ?_, ?_, ?_, ?_, ?_, ?_, ?_, ?_, hn⟩
  · rw [h1, h2, h3]; exact h.file.by k (fun e => h.disk.ne h.file (by decide) (Option.some.inj e))
  · rw [h1, h4]; exact World.ownsRow.kept h.now k (.inr (own_ne h.now h.disk (by decide)))
  · rw [h2, h5]; exact World.ownsRow.kept h.last k (.inr (own_ne h.last h.disk (by decide)))
  · rw [h1, h2]; exact h.apart
  · rw [h3, h6]; exact World.ownsRow.kept h.loose k (.inr (own_ne h.loose h.disk (by decide)))
  · rw [h6, h1, h2]
    intro l hl
    have he := h.each l hl
    exact ⟨he.pa.by k (fun e => h.disk.ne he.pa (by decide) (Option.some.inj e)), he.pk.by k (fun e => h.disk.ne he.pk (by decide) (Option.some.inj e)), World.ownsRow.kept he.own k (.inr (own_ne he.own h.disk (by decide))), he.ap, he.len⟩
  · rw [h7]; exact h.room
  · rw [h4, h7]; exact h.nbl
  · rw [h5]; exact h.lbl
set_option maxRecDepth 100000 in
set_option maxHeartbeats 1000000 in
theorem Write1_walk (b0 b1 b2 b3 D F p : Nat) (vd : Value) (ds : List UInt8) (w : World) (Post : World → Prop) (h0 : At w b0 41 [vd]) (h1 : At w b1 24 [.pointer (some ⟨D, 0, none⟩)]) (h2 : At w b2 88 [.pointer (some ⟨F, 0, none⟩)]) (h3 : At w b3 3 [.int .i64 (p : Int)]) (hd : Sb w vd ds)
    (hp : ds = [] → Post w)
    (H : ds ≠ [] → Calls Tryz.prog 58 #[.pointer (some ⟨D, 0, none⟩), .pointer (some ⟨F, 0, none⟩), .int .i64 (p : Int), vd] w fun e w' => e = .returned (.tuple #[]) ∧ Post w') :
    Calls Tryz.prog 57 #[.pointer (some ⟨b0, 0, none⟩), .pointer (some ⟨b1, 0, none⟩), .pointer (some ⟨b2, 0, none⟩), .pointer (some ⟨b3, 0, none⟩)] w fun e w' => e = .returned (.tuple #[]) ∧ Post w' := by
  have c0 := h0.cell (i := 0) rfl
  have c1 := h1.cell (i := 0) rfl
  have c2 := h2.cell (i := 0) rfl
  have c3 := h3.cell (i := 0) rfl
  obtain ⟨a, c, rfl, _⟩ := hd
  clear h0 h1 h2 h3
  by_cases hz : ds = []
  · subst hz
    have HP := Hid.of (hp rfl)
    clear hp H
    go_enter Tryz.func57, Tryz.ntmps57
    go_wp2
    go_end0
    exact ⟨rfl, HP.out⟩
  · have HC := Hid.of (H hz)
    have hl : (0 : Int) < (ds.length : Int) := by have := List.length_pos_iff.2 hz; omega
    clear hp H hz
    go_enter Tryz.func57, Tryz.ntmps57
    go_wp2_with fail
    refine HC.out.mono ?_
    rintro e w1 ⟨rfl, hP⟩
    have HP := Hid.of hP
    clear hP
    dsimp only
    go_wp2
    go_end0
    exact ⟨rfl, HP.out⟩
end Go.Proofs.YtaibjeehjhlicaaGreatDoor
namespace Go.Proofs.YtaibjeehjhlicaaGreatDoor
open Go.RowKit Go.Shelf TextNum ModNum
theorem gro_wr (nb ds : List UInt8) (p : Nat) (h : ds ≠ []) : (nb.length : Int) + gro nb.length p ds.length = ((wr nb p ds).length : Int) := by
  have hl := List.length_pos_iff.2 h
  rw [wr_len nb p ds h]
  unfold gro
  by_cases hc : ds.length = 0 ∨ (p : Int) + ds.length ≤ nb.length
  · rw [if_pos hc]
    rcases hc with hc | hc <;> omega
  · rw [if_neg hc]
    have : ¬ ((p : Int) + ds.length ≤ nb.length) := fun h => hc (.inr h)
    omega
theorem lcs_snoc (lo : List LW) (l : LW) : lcs (lo ++ [l]) = lcs lo ++ lwc l.tn l.ds.length l.ba l.bk := by
  unfold lcs
  rw [List.flatMap_append]
  simp
theorem Inv.wrote {w w' : World} {B D M F T : Nat} {s : DS} (h : Inv w B D M F T s) (p : Nat) (ds : List UInt8) (h0 : ds ≠ []) (hpl : p + ds.length ≤ 1099511627776) (hnl : (wr s.nb p ds).length ≤ s.room) (vn' vo' vk : Value) (ba bk : Nat)
    (q1 : At w' D 85 [.int .i64 (s.room : Int), .int .i64 ((s.nb.length : Int) + gro s.nb.length p ds.length), .bool false, .map (some M), s.vL, s.vC, .slice none 0 0, .int .i64 ((s.lo.length : Int) + 1), .int .i64 (s.trn + 1), .int .i64 s.acts, .int .i64 0, .int .i64 0])
    (q2 : At w' F 95 [vn', s.vl, vo']) (q3 : Ow w' B vn' (wr s.nb p ds)) (q4 : w'.ownsRow B 144 3 vo' (s.lo.length + 1) (lcs s.lo ++ lwc s.trn ds.length ba bk)) (q5 : At w' ba 3 [.int .i64 (p : Int)]) (q6 : At w' bk 41 [vk])
    (q7 : Ow w' w.heap.size vk ds) (q10 : Frs w s.vn vn') (q11 : ∀ g, vk.ownBlock = some g → vn'.ownBlock ≠ some g) (q12 : Fr (fun k => k = D ∨ k = F ∨ s.vn.ownBlock = some k ∨ s.vo.ownBlock = some k) w w')
    (hn : s.lo.length + 1 ≤ T ∧ s.trn + 1 ≤ T) :
    Inv w' B D M F T { s with vn := vn', vo := vo', nb := wr s.nb p ds, lo := s.lo ++ [⟨p, ds, ba, bk, vk, s.trn⟩], trn := s.trn + 1 } ∧ Nx w s { s with vn := vn', vo := vo', nb := wr s.nb p ds, lo := s.lo ++ [⟨p, ds, ba, bk, vk, s.trn⟩], trn := s.trn + 1 } := by
  have lvn := World.ownsRow.lt h.now
  have lvl := World.ownsRow.lt h.last
  have lvo := World.ownsRow.lt h.loose
  have hS : ∀ k, (k = D ∨ k = F ∨ s.vn.ownBlock = some k ∨ s.vo.ownBlock = some k) → B ≤ k := fun k hk => by
    rcases hk with rfl | rfl | hk | hk
    · exact h.low.2.1
    · exact h.low.2.2.2
    · exact (lvn k hk).1
    · exact (lvo k hk).1
  have hap : ∀ g, vn'.ownBlock = some g → s.vl.ownBlock ≠ some g := fun g hg e => by
    rcases q10 g hg with h1 | h1
    · exact h.apart g h1 e
    · have := (lvl g e).2; omega
  refine ⟨⟨?_, h.low, Nat.le_trans h.hB q12.size, ?_, ?_, q2, q3, ?_, hap, ?_, ?_, h.room, hnl, h.lbl, ?_⟩, ⟨q10, Frs.refl _ _, fun l hl => ?_, rfl⟩⟩
  · obtain ⟨m, hm⟩ := h.ml
    have hb : 0 < w.heap.size := Nat.lt_of_lt_of_le h.low.1 h.hB
    refine ⟨m, ?_⟩
    rw [← hm]
    exact World.cell?_of_block (q12.block 0 hb (fun hk => by have h5 : B ≤ 0 := hS _ hk; have h6 := h.low.1; omega))
  · have e1 := gro_wr s.nb ds p h0
    rw [e1] at q1
    show At w' D 85 [.int .i64 (s.room : Int), .int .i64 ((wr s.nb p ds).length : Int), .bool false, .map (some M), s.vL, s.vC, .slice none 0 0, .int .i64 ((s.lo ++ [(⟨p, ds, ba, bk, vk, s.trn⟩ : LW)]).length : Int), .int .i64 (s.trn + 1), .int .i64 s.acts, .int .i64 0, .int .i64 0]
    rw [List.length_append]
    exact q1
  · have hlt := World.ownsMap.lt h.map
    have hM : ¬ (M = D ∨ M = F ∨ s.vn.ownBlock = some M ∨ s.vo.ownBlock = some M) := fun hk => by
      rcases hk with hk | hk | hk | hk
      · exact map_ne h.map h.disk hk
      · exact map_ne h.map h.file hk
      · exact map_own h.map h.now hk
      · exact map_own h.map h.loose hk
    obtain ⟨es, cl, hb, r⟩ := h.map
    exact ⟨es, cl, (q12.block M hlt hM).trans hb, r⟩
  · refine q12.own h.last (fun g hg hk => ?_)
    rcases hk with hk | hk | hk | hk
    · exact own_ne h.last h.disk (by decide) (hk ▸ hg)
    · exact own_ne h.last h.file (by decide) (hk ▸ hg)
    · exact h.apart g hk hg
    · exact own_apart h.last h.loose (by decide) hg hk
  · show w'.ownsRow B 144 3 vo' (s.lo ++ [(⟨p, ds, ba, bk, vk, s.trn⟩ : LW)]).length (lcs (s.lo ++ [⟨p, ds, ba, bk, vk, s.trn⟩]))
    rw [lcs_snoc, List.length_append]
    exact q4
  · intro l hl
    rcases List.mem_append.1 hl with hl | hl
    · have he := h.each l hl
      refine ⟨q12.at he.pa (fun hk => ?_), q12.at he.pk (fun hk => ?_), q12.own he.own (fun g hg hk => ?_), fun g hg => ⟨fun e => ?_, (he.ap g hg).2⟩, he.len⟩
      · rcases hk with hk | hk | hk | hk
        · exact he.pa.ne h.disk (by decide) hk
        · exact he.pa.ne h.file (by decide) hk
        · exact own_ne h.now he.pa (by decide) hk
        · exact own_ne h.loose he.pa (by decide) hk
      · rcases hk with hk | hk | hk | hk
        · exact he.pk.ne h.disk (by decide) hk
        · exact he.pk.ne h.file (by decide) hk
        · exact own_ne h.now he.pk (by decide) hk
        · exact own_ne h.loose he.pk (by decide) hk
      · rcases hk with hk | hk | hk | hk
        · exact own_ne he.own h.disk (by decide) (hk ▸ hg)
        · exact own_ne he.own h.file (by decide) (hk ▸ hg)
        · exact (he.ap g hg).1 hk
        · exact own_apart he.own h.loose (by decide) hg hk
      · rcases q10 g e with h1 | h1
        · exact (he.ap g hg).1 h1
        · have := (World.ownsRow.lt he.own g hg).2; omega
    · obtain rfl := List.mem_singleton.1 hl
      exact ⟨q5, q6, ow_base q7 h.hB, fun g hg => ⟨q11 g hg, fun e => by have := (lvl g e).2; have := (World.ownsRow.lt q7 g hg).1; omega⟩, hpl⟩
  · have := h.num
    simp only [List.length_append, List.length_cons, List.length_nil]
    omega
  · rcases List.mem_append.1 hl with hl | hl
    · exact .inl hl
    · obtain rfl := List.mem_singleton.1 hl
      exact .inr (fun g hg => (World.ownsRow.lt q7 g hg).1)
theorem wrE_ok {room n m : Nat} {p : Int} (h : wrE room n p m = 0) (hn : n ≤ room) (hm : m ≠ 0) : 0 ≤ p ∧ p ≤ 1048576 ∧ p + m ≤ room := by
  unfold wrE at h
  by_cases h1 : p < 0 ∨ 1048576 < p
  · rw [if_pos h1] at h; cases h
  · rw [if_neg h1] at h
    by_cases h2 : 0 < gro n p m ∧ (room : Int) < n + gro n p m
    · rw [if_pos h2] at h; cases h
    · have h3 : ¬ (0 < gro n p m) ∨ ¬ ((room : Int) < n + gro n p m) := by
        rcases Decidable.not_and_iff_or_not.1 h2 with h | h
        · exact .inl h
        · exact .inr h
      unfold gro at h3
      by_cases h4 : m = 0 ∨ p + m ≤ n
      · rcases h4 with h4 | h4
        · exact absurd h4 hm
        · omega
      · rw [if_neg h4] at h3
        have h5 : ¬ (p + m ≤ n) := fun h => h4 (.inr h)
        omega
set_option maxRecDepth 100000 in
set_option maxHeartbeats 4000000 in
theorem Write_walk (B Bd D M F T : Nat) (s : DS) (vd : Value) (ds : List UInt8) (p : Int) (w : World) (hI : Inv w B D M F T s) (hd : Ow w Bd vd ds) (hm : ds.length ≤ 140737488355328) (hT : T + 1 ≤ 100000) :
    Calls Tryz.prog 22 #[.pointer (some ⟨D, 0, none⟩), .string ⟨#[102]⟩, .int .i64 p, vd] w fun e w' => e = .returned (.int .i64 (wrE s.room s.nb.length p ds.length)) ∧
      ∃ s', Inv w' B D M F (T + 1) s' ∧ s'.nb = (if wrE s.room s.nb.length p ds.length = 0 then wr s.nb p.toNat ds else s.nb) ∧ Nx w s s' ∧ Fr (Sd D F s) w w' := by
  obtain ⟨ad, cd, rfl, _⟩ := Ow.sb hd
  obtain ⟨an, cn, hvn, _⟩ := Ow.sb hI.now
  have HD := Hid.of hd
  have HI := Hid.of hI
  have HNum := Hid.of hI.num
  clear hd hI
  obtain ⟨er, her⟩ : ∃ er, wrE s.room s.nb.length p ds.length = er := ⟨_, rfl⟩
  have HER := Hid.of her
  have a1 := at_new w 24 [.pointer (some ⟨D, 0, none⟩)]
  have a2 := at_new (w.alloc (.cells [.pointer (some ⟨D, 0, none⟩)].toArray 24)) 3 [.int .i64 p]
  have a3 := at_new ((w.alloc (.cells [.pointer (some ⟨D, 0, none⟩)].toArray 24)).alloc (.cells [.int .i64 p].toArray 3)) 41 [.slice ad ds.length cd]
  rw [alloc_size] at a2
  rw [alloc_size, alloc_size] at a3
  have HA1 := Hid.of (a1.up (((Up.refl _).alloc (.cells [.int .i64 p].toArray 3)).alloc (.cells [.slice ad ds.length cd].toArray 41)))
  have HA2 := Hid.of (a2.up ((Up.refl _).alloc (.cells [.slice ad ds.length cd].toArray 41)))
  have HA3 := Hid.of a3
  have HUa := Hid.of ((((Up.refl w).alloc (.cells [.pointer (some ⟨D, 0, none⟩)].toArray 24)).alloc (.cells [.int .i64 p].toArray 3)).alloc (.cells [.slice ad ds.length cd].toArray 41))
  clear a1 a2 a3
  rw [her]
  clear her
  go_enter Tryz.func22, Tryz.ntmps22
  go_wp2_with fail
  generalize hWa : ((w.alloc (.cells [.pointer (some ⟨D, 0, none⟩)].toArray 24)).alloc (.cells [.int .i64 p].toArray 3)).alloc (.cells [.slice ad ds.length cd].toArray 41) = Wa at *
  have HIa := Hid.of (HI.out.up HUa.out)
  refine (find_walk D M F 1 _ _ _ _ _ _ _ _ _ _ _ Wa HIa.out.ml HIa.out.disk HIa.out.map).mono ?_
  rintro e w2 ⟨rfl, u2⟩
  have HU2 := Hid.of (HUa.out.trans u2)
  have HA1b := Hid.of (HA1.out.up u2)
  have HA2b := Hid.of (HA2.out.up u2)
  have HA3b := Hid.of (HA3.out.up u2)
  clear u2 HA1 HA2 HA3 HUa HIa hWa
  dsimp only
  have HA4 := Hid.of (at_new w2 88 [.pointer (some ⟨F, 0, none⟩)])
  have HU23 := Hid.of ((Up.refl w2).alloc (.cells [.pointer (some ⟨F, 0, none⟩)].toArray 88))
  have hw2 : (w2.alloc (.cells [.pointer (some ⟨F, 0, none⟩)].toArray 88)) = (w2.alloc (.cells #[.pointer (some ⟨F, 0, none⟩)] 88)) := rfl
  have c1 := (HA1b.out.up HU23.out).cell (i := 0) rfl
  have c2 := (HA2b.out.up HU23.out).cell (i := 0) rfl
  have c3 := (HA3b.out.up HU23.out).cell (i := 0) rfl
  have c4 := HA4.out.cell (i := 0) rfl
  rw [hw2] at c1 c2 c3 c4 HA4 HU23
  go_wp2_with fail
  generalize w2.alloc (.cells #[.pointer (some ⟨F, 0, none⟩)] 88) = W3 at *
  have HU3 := Hid.of (HU2.out.trans HU23.out)
  have HI3 := Hid.of (HI.out.up HU3.out)
  have hf3 := HI3.out.file
  rw [hvn] at hf3
  have hnm := HI3.out.nbl
  have hrm := HI3.out.room
  refine (writeError_walk D F s.nb.length ds.length s.room p an ad cn cd _ _ _ _ _ _ _ _ _ _ _ _ W3 HI3.out.disk hf3 hm (by omega) (by omega)).mono ?_
  rw [HER.out]
  rintro e w4 ⟨rfl, u4⟩
  have HU34 := Hid.of (HU23.out.trans u4)
  have HU4 := Hid.of (HU3.out.trans u4)
  have HI4 := Hid.of (HI.out.up HU4.out)
  have HB1 := Hid.of ((HA1b.out.up HU23.out).up u4)
  have HB2 := Hid.of ((HA2b.out.up HU23.out).up u4)
  have HB3 := Hid.of ((HA3b.out.up HU23.out).up u4)
  have HB4 := Hid.of (HA4.out.up u4)
  generalize w2.heap.size = bf at *
  clear u4 HI3 hf3 HA1b HA2b HA3b HA4 HU23 HU34 c1 c2 c3 c4 hw2 HU2 HU3
  dsimp only
  have c1 := HB1.out.cell (i := 0) rfl
  by_cases hz : er = 0
  · subst hz
    have hp0 : ¬ (p < 0 ∨ 1048576 < p) := fun h => by
      have := HER.out
      unfold wrE at this
      rw [if_pos h] at this
      cases this
    obtain ⟨pn, rfl⟩ : ∃ pn : Nat, p = pn := ⟨p.toNat, by omega⟩
    have HDw := Hid.of (ow_up HD.out HU4.out)
    have HAct := Hid.of (act_Write1 D s.room s.nb.length s.lo.length s.trn s.acts (.map (some M)) s.vL s.vC (.slice none 0 0) (.int .i64 0) (.pointer (some ⟨w.heap.size + 1 + 1, 0, none⟩)) (.pointer (some ⟨w.heap.size, 0, none⟩)) (.pointer (some ⟨bf, 0, none⟩)) (.pointer (some ⟨w.heap.size + 1, 0, none⟩)) w4 HI4.out.disk (by have := HNum.out; omega) (by have := HNum.out; omega)
      (fun w9 => ∃ s', Inv w9 B D M F (T + 1) s' ∧ s'.nb = wr s.nb pn ds ∧ Nx w s s' ∧ Fr (Sd D F s) w w9) (fun w1 hd1 g1 => by
        have I1 : Inv w1 B D M F (T + 1) { s with acts := s.acts + 1 } := HI4.out.disked (s' := { s with acts := s.acts + 1 }) g1 hd1 rfl rfl rfl rfl rfl rfl rfl (by have := HNum.out; simp only; omega)
        have fr1 : Fr (Sd D F s) w w1 := ((Fr.refl (Sd D F s) w).up HU4.out).by g1 (fun g hg => .inl (.inl (Option.some.inj hg).symm))
        have dd1 : Ow w1 Bd (.slice ad ds.length cd) ds := World.ownsRow.kept HDw.out g1 (.inr (own_ne HDw.out HI4.out.disk (by decide)))
        refine Write1_walk (w.heap.size + 1 + 1) w.heap.size bf (w.heap.size + 1) D F pn (.slice ad ds.length cd) ds w1 _ (HB3.out.by g1 (fun e => HI4.out.disk.ne HB3.out (by decide) (Option.some.inj e))) (HB1.out.by g1 (fun e => HI4.out.disk.ne HB1.out (by decide) (Option.some.inj e))) (HB4.out.by g1 (fun e => HI4.out.disk.ne HB4.out (by decide) (Option.some.inj e))) (HB2.out.by g1 (fun e => HI4.out.disk.ne HB2.out (by decide) (Option.some.inj e))) (Ow.sb dd1) (fun h0 => ?_) (fun h0 => ?_)
        · exact ⟨_, I1, by simp [wr, h0], ⟨Frs.refl _ _, Frs.refl _ _, fun l hl => .inl hl, rfl⟩, fr1⟩
        · obtain ⟨k1, k2, k3⟩ := wrE_ok HER.out hnm (fun e => h0 (List.eq_nil_of_length_eq_zero e))
          refine (write_walk B D F pn s.nb.length s.lo.length s.trn _ _ _ _ _ _ _ _ _ s.vn s.vl s.vo (.slice ad ds.length cd) s.nb ds s.lo.length (lcs s.lo) w1 I1.disk I1.file I1.now I1.loose (Ow.sb dd1) (by omega) (by omega) (by omega) I1.hB (by omega) (by omega) (by omega) (by have := HNum.out; omega) (by have := HNum.out; omega) (by have := HNum.out; omega) (by have := HNum.out; omega)).mono ?_
          rintro e w9 ⟨rfl, vn', vo', vk, ba, bk, q1, q2, q3, q4, q5, q6, q7, _, _, q10, q11, q12⟩
          have hwl := wr_len s.nb pn ds h0
          have hin := I1.wrote pn ds h0 (by omega) (by rw [hwl]; simp only; omega) vn' vo' vk ba bk q1 q2 q3 q4 q5 q6 q7 q10 q11 q12 (by have := HNum.out; simp only; omega)
          refine ⟨rfl, _, hin.1, rfl, ⟨fun g hg => ?_, Frs.refl _ _, fun l hl => ?_, rfl⟩, fr1.trans q12 (fun g hg => .inl ?_)⟩
          · rcases hin.2.vn g hg with h | h
            · exact .inl h
            · exact .inr (Nat.le_trans fr1.size h)
          · rcases hin.2.lo l hl with h | h
            · exact .inl h
            · exact .inr (fun g hg => Nat.le_trans fr1.size (h g hg))
          · rcases hg with hg | hg | hg | hg
            · exact .inl hg
            · exact .inr (.inl hg)
            · exact .inr (.inr (.inl hg))
            · exact .inr (.inr (.inr (.inr hg)))))
    clear HDw HD HI HI4 HB2 HB3 HB4 hnm hrm hvn
    go_wp2_with fail
    refine HAct.out.mono ?_
    rintro e w9 ⟨rfl, hP⟩
    have HP := Hid.of hP
    clear hP HAct
    dsimp only
    go_wp2
    go_ret
    exact ⟨rfl, HP.out⟩
  · have HAct := Hid.of (act_err D s.room s.nb.length s.lo.length s.trn s.acts er (.map (some M)) s.vL s.vC (.slice none 0 0) (.int .i64 0) (.func (.func 57) #[] #[.pointer (some ⟨w.heap.size + 1 + 1, 0, none⟩), .pointer (some ⟨w.heap.size, 0, none⟩), .pointer (some ⟨bf, 0, none⟩), .pointer (some ⟨w.heap.size + 1, 0, none⟩)]) w4 HI4.out.disk (by have := HNum.out; omega) (by have := HNum.out; omega) hz)
    go_wp2_with fail
    refine HAct.out.mono ?_
    rintro e w9 ⟨rfl, hd9, g9⟩
    have HP := Hid.of (show ∃ s', Inv w9 B D M F (T + 1) s' ∧ s'.nb = s.nb ∧ Nx w s s' ∧ Fr (Sd D F s) w w9 from
      ⟨{ s with acts := s.acts + 1 }, HI4.out.disked (s' := { s with acts := s.acts + 1 }) g9 hd9 rfl rfl rfl rfl rfl rfl rfl (by have := HNum.out; simp only; omega), rfl, ⟨Frs.refl _ _, Frs.refl _ _, fun l hl => .inl hl, rfl⟩, ((Fr.refl (Sd D F s) w).up HU4.out).by g9 (fun g hg => .inl (.inl (Option.some.inj hg).symm))⟩)
    clear hd9 g9 HAct HD HI HI4 HB2 HB3 HB4 hnm hrm hvn
    dsimp only
    go_wp2
    go_ret
    exact ⟨rfl, HP.out⟩
end Go.Proofs.YtaibjeehjhlicaaGreatDoor
