import Derived.Test.YtaibjeehjhlicaaDoorYad
namespace Go.Proofs.YtaibjeehjhlicaaDoor
open Go.RowKit Go.Shelf TextNum ModNum
/-- a loose write -/
structure LW where
  p : Nat
  ds : List UInt8
  ba : Nat
  bk : Nat
  vk : Value
  tn : Int
/-- a disk with the one file f -/
structure DS where
  vn : Value
  vl : Value
  vo : Value
  vL : Value
  vC : Value
  nb : List UInt8
  lb : List UInt8
  lo : List LW
  trn : Int
  acts : Int
  room : Nat
def lcs (l : List LW) : List Value := l.flatMap fun l => lwc l.tn l.ds.length l.ba l.bk
abbrev dcs (M : Nat) (s : DS) : List Value := [.int .i64 (s.room : Int), .int .i64 (s.nb.length : Int), .bool false, .map (some M), s.vL, s.vC, .slice none 0 0, .int .i64 (s.lo.length : Int), .int .i64 s.trn, .int .i64 s.acts, .int .i64 0, .int .i64 0]
structure LOk (w : World) (B : Nat) (vn vl : Value) (l : LW) : Prop where
  pa : At w l.ba 3 [.int .i64 (l.p : Int)]
  pk : At w l.bk 27 [l.vk]
  own : Ow w B l.vk l.ds
  ap : ∀ g, l.vk.ownBlock = some g → vn.ownBlock ≠ some g ∧ vl.ownBlock ≠ some g
  len : l.p + l.ds.length ≤ 1099511627776
structure Inv (w : World) (B D M F T : Nat) (s : DS) : Prop where
  ml : ML w
  low : 0 < B ∧ B ≤ D ∧ B ≤ M ∧ B ≤ F
  hB : B ≤ w.heap.size
  disk : At w D 58 (dcs M s)
  map : OM w M 1 (D1 F)
  file : At w F 51 [s.vn, s.vl, s.vo]
  now : Ow w B s.vn s.nb
  last : Ow w B s.vl s.lb
  apart : ∀ g, s.vn.ownBlock = some g → s.vl.ownBlock ≠ some g
  loose : w.ownsRow B 123 3 s.vo s.lo.length (lcs s.lo)
  each : ∀ l ∈ s.lo, LOk w B s.vn s.vl l
  room : s.room ≤ 4000
  nbl : s.nb.length ≤ s.room
  lbl : s.lb.length ≤ 1099511627776
  num : s.lo.length ≤ T ∧ 0 ≤ s.trn ∧ s.trn ≤ T ∧ 0 ≤ s.acts ∧ s.acts ≤ 2 * T + 1 ∧ T ≤ 100000
theorem LOk.up {w w' : World} {B : Nat} {vn vl : Value} {l : LW} (h : LOk w B vn vl l) (k : Up w w') : LOk w' B vn vl l := ⟨h.pa.up k, h.pk.up k, ow_up h.own k, h.ap, h.len⟩
theorem Inv.up {w w' : World} {B D M F T : Nat} {s : DS} (h : Inv w B D M F T s) (k : Up w w') : Inv w' B D M F T s :=
  ⟨h.ml.up k, h.low, Nat.le_trans h.hB k.size, h.disk.up k, h.map.up k, h.file.up k, ow_up h.now k, ow_up h.last k, h.apart, ow_up h.loose k, fun l hl => (h.each l hl).up k, h.room, h.nbl, h.lbl, h.num⟩
/-- what is new of a state -/
structure Nx (w : World) (s s' : DS) : Prop where
  vn : Frs w s.vn s'.vn
  vl : Frs w s.vl s'.vl
  lo : ∀ l ∈ s'.lo, l ∈ s.lo ∨ ∀ g, l.vk.ownBlock = some g → w.heap.size ≤ g
  room : s'.room = s.room
def Sd (D F : Nat) (s : DS) (k : Nat) : Prop := k = D ∨ k = F ∨ s.vn.ownBlock = some k ∨ s.vl.ownBlock = some k ∨ s.vo.ownBlock = some k
theorem Frs.refl (w : World) (v : Value) : Frs w v v := fun _ h => .inl h
theorem Nx.refl (w : World) (s : DS) : Nx w s s := ⟨Frs.refl _ _, Frs.refl _ _, fun _ h => .inl h, rfl⟩
theorem map_ne {w : World} {M n b : Nat} {D : DataW Unit} {t : TypeId} {cs : List Value} (h : OM w M n D) (k : At w b t cs) : M ≠ b := fun e => by
  subst e
  obtain ⟨es, cl, hb, _⟩ := h
  unfold At at k
  rw [hb] at k
  injection k with k
  cases k
theorem map_own {w : World} {M n B m q : Nat} {D : DataW Unit} {e : TypeId} {v : Value} {xs : List Value} (h : OM w M n D) (k : w.ownsRow B e m v q xs) : v.ownBlock ≠ some M := fun hb => by
  obtain ⟨es, cl, hm, _⟩ := h
  rcases k.2 with ⟨rfl, _⟩ | ⟨g, cap, cur, rfl, _, hg, _⟩
  · cases hb
  · obtain rfl : g = M := Option.some.inj hb
    rw [hm] at hg
    injection hg with hg
    cases hg
/-- the disk's own cells were turned alone -/
theorem Inv.disked {w w' : World} {B D M F T T' : Nat} {s s' : DS} (h : Inv w B D M F T s) (k : w.grownBy w' (some D)) (hd : At w' D 58 (dcs M s')) (h1 : s'.vn = s.vn) (h2 : s'.vl = s.vl) (h3 : s'.vo = s.vo) (h4 : s'.nb = s.nb) (h5 : s'.lb = s.lb) (h6 : s'.lo = s.lo) (h7 : s'.room = s.room)
    (hn : s'.lo.length ≤ T' ∧ 0 ≤ s'.trn ∧ s'.trn ≤ T' ∧ 0 ≤ s'.acts ∧ s'.acts ≤ 2 * T' + 1 ∧ T' ≤ 100000) : Inv w' B D M F T' s' := by
  obtain ⟨m, hm⟩ := h.ml
  refine ⟨⟨m, k.cell hm (fun e => by have := h.low; have e2 := Option.some.inj e; simp at e2; omega)⟩, h.low, Nat.le_trans h.hB k.size, hd, World.ownsMap.kept h.map k (fun e => map_ne h.map h.disk (Option.some.inj e)), ?_, ?_, ?_, ?_, ?_, ?_, ?_, ?_, ?_, hn⟩
  · rw [h1, h2, h3]; exact h.file.by k (fun e => h.disk.ne h.file (by decide) (Option.some.inj e))
  · rw [h1, h4]; exact World.ownsRow.kept h.now k (.inr (own_ne h.now h.disk (by decide)))
  · rw [h2, h5]; exact World.ownsRow.kept h.last k (.inr (own_ne h.last h.disk (by decide)))
  · rw [h1, h2]; exact h.apart
  · rw [h3, h6]; exact World.ownsRow.kept h.loose k (.inr (own_ne h.loose h.disk (by decide)))
  · rw [h6, h1, h2]
    intro l hl
    have he := h.each l hl
    exact ⟨he.pa.by k (fun e => h.disk.ne he.pa (by decide) (Option.some.inj e)), he.pk.by k (fun e => h.disk.ne he.pk (by decide) (Option.some.inj e)), World.ownsRow.kept he.own k (.inr (own_ne he.own h.disk (by decide))), he.ap, he.len⟩
  · rw [h7]; exact h.room
  · rw [h4, h7]; exact h.nbl
  · rw [h5]; exact h.lbl
end Go.Proofs.YtaibjeehjhlicaaDoor
