import Derived.Test.YtaibjeehjhlicaaDoorYae
import Derived.Test.YtaibjeehjhlicaaDoorYak
namespace Go.Proofs.YtaibjeehjhlicaaDoor
open Go.RowKit Go.Shelf TextNum ModNum
/-- names that stand for files' blocks -/
abbrev NM : Type := List UInt8 → Option Nat
def nput (m : NM) (l : List UInt8) (b : Nat) : NM := fun x => if x = l then some b else m x
def ndel (m : NM) (l : List UInt8) : NM := fun x => if x = l then none else m x
/-- the map reads as these names -/
def MIs (dm : DataW Unit) (m : NM) : Prop := ∀ l, Maps.has dm (.string l) = (m l).isSome ∧ ∀ b, m l = some b → ∀ z, dm.atKey (.string l) z = fd b
theorem str_ne {a b : List UInt8} (h : a ≠ b) : (Lit.string a) ≠ (Lit.string b) := fun e => h (by injection e)
theorem MIs.put {dm : DataW Unit} {m : NM} (h : MIs dm m) (hm : Maps.IsMap dm) (l : List UInt8) (b : Nat) : MIs (dm.put (.string l) (fd b)) (nput m l b) := by
  intro x
  unfold nput
  by_cases hx : x = l
  · subst hx
    rw [if_pos rfl]
    exact ⟨Maps.has_put_same hm (by simp [WideAt.IsKeyLit]) _, fun b' e z => by injection e with e; subst e; exact Maps.atKey_put_same hm (by simp [WideAt.IsKeyLit]) _ _⟩
  · rw [if_neg hx, Maps.has_put_other (str_ne hx)]
    exact ⟨(h x).1, fun b' e z => by rw [Maps.atKey_put_other (str_ne hx)]; exact (h x).2 b' e z⟩
theorem MIs.del {dm : DataW Unit} {m : NM} (h : MIs dm m) (l : List UInt8) : MIs (dm.del (.string l)) (ndel m l) := by
  intro x
  unfold ndel
  by_cases hx : x = l
  · subst hx
    rw [if_pos rfl]
    exact ⟨Maps.has_del_same, fun b' e => by cases e⟩
  · rw [if_neg hx, Maps.has_del_other (str_ne hx)]
    exact ⟨(h x).1, fun b' e z => by rw [Maps.atKey_del_other (str_ne hx)]; exact (h x).2 b' e z⟩
/-- a names' act that may be lost: 0 Create, 1 Remove, 2 Rename -/
structure NA where
  kd : Nat
  s : ByteArray
  t : ByteArray
  f : Nat
  b1 : Nat
  b2 : Nat
abbrev pv (b : Nat) : Value := .pointer (some ⟨b, 0, none⟩)
def nav (c : NA) : Value := if c.kd = 0 then .func (.func 0) #[] #[pv c.b1, pv c.b2] else if c.kd = 1 then .func (.func 0) #[] #[pv c.b2] else .func (.func 0) #[] #[pv c.b1, pv c.b2]
def nac (c : NA) (m : NM) : NM := if c.kd = 0 then nput m c.s.data.toList c.f else if c.kd = 1 then ndel m c.s.data.toList else match m c.s.data.toList with
  | some b => nput (ndel m c.s.data.toList) c.t.data.toList b
  | none => m
def nbs (c : NA) : List Nat := if c.kd = 1 then [c.b2] else [c.b1, c.b2]
structure NAOk (w : World) (c : NA) : Prop where
  sl : c.s.size ≤ 255
  tl : c.t.size ≤ 255
  b1 : c.kd ≠ 1 → At w c.b1 (if c.kd = 0 then 52 else 9) [if c.kd = 0 then pv c.f else .string c.s]
  b2 : At w c.b2 9 [.string (if c.kd = 2 then c.t else c.s)]
theorem NAOk.up {w w' : World} {c : NA} (h : NAOk w c) (k : Up w w') : NAOk w' c := ⟨h.sl, h.tl, fun e => (h.b1 e).up k, h.b2.up k⟩
theorem NAOk.fr {S : Nat → Prop} {w w' : World} {c : NA} (h : NAOk w c) (k : Fr S w w') (hS : ∀ b ∈ nbs c, ¬ S b) : NAOk w' c :=
  ⟨h.sl, h.tl, fun e => k.at (h.b1 e) (hS _ (by unfold nbs; rw [if_neg e]; simp)), k.at h.b2 (hS _ (by unfold nbs; by_cases e : c.kd = 1 <;> simp [e]))⟩
theorem NAOk.lt {w : World} {c : NA} (h : NAOk w c) : ∀ b ∈ nbs c, b < w.heap.size := by
  intro b hb
  unfold nbs at hb
  by_cases e : c.kd = 1
  · rw [if_pos e] at hb
    obtain rfl := List.mem_singleton.1 hb
    exact lt_of_at h.b2
  · rw [if_neg e] at hb
    rcases List.mem_cons.1 hb with rfl | hb
    · exact lt_of_at (h.b1 e)
    · obtain rfl := List.mem_singleton.1 hb
      exact lt_of_at h.b2
/-- a disk -/
structure DD where
  room : Nat
  M : Nat
  L : Nat
  nM : Nat
  nL : Nat
  n0 : Nat
  dm : DataW Unit
  dl : DataW Unit
  las : NM
  vC : Value
  vLo : Value
  chs : List NA
  nf : List (List UInt8 × FL)
  of : List FL
  trn : Nat
  acts : Nat
  unt : Nat
  flt : Int
  dead : Bool
def usd (nf : List (List UInt8 × FL)) : Nat := (nf.map fun p => p.2.nb.length).sum
def lsd (fs : List FL) : Nat := (fs.map fun f => f.lo.length).sum
def fls (s : DD) : List FL := s.nf.map (·.2) ++ s.of
abbrev dcl (s : DD) : List Value := [.int .i64 (s.room : Int), .int .i64 (usd s.nf : Int), .bool s.dead, .map (some s.M), .map (some s.L), s.vC, s.vLo, .int .i64 (lsd (fls s) : Int), .int .i64 (s.trn : Int), .int .i64 (s.acts : Int), .int .i64 (s.unt : Int), .int .i64 s.flt]
/-- the map of now reads as the named files -/
structure MN (dm : DataW Unit) (nf : List (List UInt8 × FL)) : Prop where
  has : ∀ l, Maps.has dm (.string l) = true ↔ l ∈ nf.map (·.1)
  val : ∀ p ∈ nf, ∀ z, dm.atKey (.string p.1) z = fd p.2.b
structure DOk (w : World) (B D T : Nat) (s : DD) : Prop where
  ml : ML w
  low : 0 < B ∧ B ≤ D ∧ B ≤ s.M ∧ B ≤ s.L
  hB : B ≤ w.heap.size
  disk : At w D 58 (dcl s)
  mnow : OM w s.M s.nM s.dm
  isn : MN s.dm s.nf
  nd : (s.nf.map (·.1)).Nodup
  nms : ∀ p ∈ s.nf, isNm p.1 = true
  mlas : OM w s.L s.nL s.dl
  isl : MIs s.dl s.las
  neq : s.M ≠ s.L
  rowC : w.ownsRow B 126 1 s.vC s.chs.length (s.chs.map nav)
  rowL : w.ownsRow B 52 1 s.vLo s.of.length (s.of.map fun f => pv f.b)
  chk : ∀ c ∈ s.chs, NAOk w c
  lap : ∀ c ∈ s.chs, ∀ k ∈ nbs c, s.vLo.ownBlock ≠ some k
  fok : ∀ f ∈ fls s, FOk w B f
  fnd : ((fls s).map (·.b)).Nodup
  apart : ∀ f ∈ fls s, ∀ g ∈ fls s, f.b ≠ g.b → ∀ k ∈ fbs f, k ∉ fbs g
  sz : ∀ f ∈ fls s, f.nb.length ≤ 1099511627776 ∧ f.lb.length ≤ 1099511627776 ∧ f.lo.length ≤ T
  num : s.chs.length ≤ T ∧ s.of.length ≤ T ∧ s.trn ≤ T ∧ s.acts ≤ T ∧ lsd (fls s) ≤ T ∧ s.nM ≤ s.n0 + T ∧ s.nL ≤ s.n0 + T ∧ T ≤ 100000 ∧ s.n0 ≤ 1000000 ∧ s.room ≤ 1099511627776 ∧ usd s.nf ≤ 1099511627776
def own (D : Nat) (s : DD) (k : Nat) : Prop := k = D ∨ k = s.M ∨ k = s.L ∨ s.vC.ownBlock = some k ∨ s.vLo.ownBlock = some k ∨ (∃ f ∈ fls s, k ∈ fbs f) ∨ ∃ c ∈ s.chs, k ∈ nbs c
theorem DOk.lt {w : World} {B D T : Nat} {s : DD} (h : DOk w B D T s) {k : Nat} (hk : own D s k) : k < w.heap.size := by
  rcases hk with rfl | rfl | rfl | hk | hk | ⟨f, hf, hk⟩ | ⟨c, hc, hk⟩
  · exact lt_of_at h.disk
  · exact World.ownsMap.lt h.mnow
  · exact World.ownsMap.lt h.mlas
  · exact (World.ownsRow.lt h.rowC k hk).2
  · exact (World.ownsRow.lt h.rowL k hk).2
  · exact (h.fok f hf).lt k hk
  · exact (h.chk c hc).lt k hk
theorem DOk.up {w w' : World} {B D T : Nat} {s : DD} (h : DOk w B D T s) (k : Up w w') : DOk w' B D T s :=
  ⟨h.ml.up k, h.low, Nat.le_trans h.hB k.size, h.disk.up k, h.mnow.up k, h.isn, h.nd, h.nms, h.mlas.up k, h.isl, h.neq, ow_up h.rowC k, ow_up h.rowL k, fun c hc => (h.chk c hc).up k, h.lap, fun f hf => (h.fok f hf).up k, h.fnd, h.apart, h.sz, h.num⟩
/-- what is done beside the disk leaves it -/
theorem DOk.fr {S : Nat → Prop} {w w' : World} {B D T : Nat} {s : DD} (h : DOk w B D T s) (k : Fr S w w') (hS : ∀ b, own D s b → ¬ S b) (hm : ¬ S 0) : DOk w' B D T s := by
  refine ⟨?_, h.low, Nat.le_trans h.hB k.size, k.at h.disk (hS _ (.inl rfl)), k.map h.mnow (hS _ (.inr (.inl rfl))), h.isn, h.nd, h.nms, k.map h.mlas (hS _ (.inr (.inr (.inl rfl)))), h.isl, h.neq, k.own h.rowC (fun g hg => hS g (.inr (.inr (.inr (.inl hg))))), k.own h.rowL (fun g hg => hS g (.inr (.inr (.inr (.inr (.inl hg)))))), fun c hc => (h.chk c hc).fr k (fun b hb => hS b (.inr (.inr (.inr (.inr (.inr (.inr ⟨c, hc, hb⟩))))))), h.lap, fun f hf => (h.fok f hf).fr k (fun b hb => hS b (.inr (.inr (.inr (.inr (.inr (.inl ⟨f, hf, hb⟩))))))), h.fnd, h.apart, h.sz, h.num⟩
  obtain ⟨m, hm0⟩ := h.ml
  refine ⟨m, ?_⟩
  rw [World.cell?_of_block (k.block _ (by have := h.low; have := h.hB; show 0 < _; omega) hm)]
  exact hm0
/-- a disk's blocks are old ones, or new -/
def Nw (N D : Nat) (s s' : DD) : Prop := ∀ k, own D s' k → own D s k ∨ N ≤ k
theorem Nw.refl (N D : Nat) (s : DD) : Nw N D s s := fun _ h => .inl h
theorem Nw.trans {N N' D : Nat} {s s1 s2 : DD} (h : Nw N D s s1) (k : Nw N' D s1 s2) (hn : N ≤ N') : Nw N D s s2 := fun b hb => (k b hb).elim (h b) (fun h => .inr (Nat.le_trans hn h))
end Go.Proofs.YtaibjeehjhlicaaDoor
