import Derived.Test.YtdlfkdehfenemaaAb
import Derived.Maps.OwnSet
namespace Go.Proofs.Ytdlfkdehfenemaa
open Go.RowKit Go.Conc TextNum
/-! ### a map from ticks to rows -/
abbrev nilS : Value := .slice none 0 0
def RV (v : Value) : Option (DataW Value × List MemPlace) := some (.held v, [])
abbrev kT (t : Nat) : Lit := .int .i64 (t : Int)
def MM (w : World) (b n : Nat) (f : Nat → Value) : Prop := ∃ dm : DataW Value, w.ownsMap Try.prog 3 RV b n dm ∧ ∀ t : Nat, dm.atKey (kT t) (.held nilS) = .held (f t)
theorem kT_key (t : Nat) : WideAt.IsKeyLit (kT t) := by simp [WideAt.IsKeyLit]
theorem kT_ne {a b : Nat} (h : a ≠ b) : kT a ≠ kT b := fun e => by
  injection e with _ e
  omega
theorem kT_of {t : Nat} (h : t ≤ 4611686018427387904) : keyOf Try.prog 3 (.int .i64 (t : Int)) = some (kT t) := Maps.keyOf_int_mk Try.underlying3 (by
  simp [Lit.wf, IntKind.min, IntKind.max, IntKind.bits, IntKind.signed]
  omega)
theorem MM.lt {w : World} {b n : Nat} {f : Nat → Value} (h : MM w b n f) : b < w.heap.size := by
  obtain ⟨dm, h1, _⟩ := h
  exact h1.lt
theorem MM.map {w : World} {b n : Nat} {f : Nat → Value} (h : MM w b n f) : ∃ es cl, w.heap[b]? = some (.map es cl) := by
  obtain ⟨dm, ⟨es, cl, h1, _⟩, _⟩ := h
  exact ⟨es, cl, h1⟩
theorem MM.made (w : World) : MM (w.alloc (.map #[] 0)) w.heap.size 0 fun _ => nilS := ⟨.map [], World.ownsMap_made w _ _ _, fun _ => rfl⟩
theorem MM.by {w w' : World} {b n : Nat} {f : Nat → Value} {row : Option Nat} (h : MM w b n f) (hg : w.grownBy w' row) (hr : row ≠ some b) : MM w' b n f := by
  obtain ⟨dm, h1, h2⟩ := h
  exact ⟨dm, h1.kept hg (fun e => hr e.symm), h2⟩
theorem Fr.mm {S : Nat → Prop} {w w' : World} {b n : Nat} {f : Nat → Value} (h : Fr S w w') (k : MM w b n f) (hS : ¬ S b) : MM w' b n f := by
  obtain ⟨dm, h1, h2⟩ := k
  have hl := World.ownsMap.lt h1
  obtain ⟨es, cl, hb, r⟩ := h1
  exact ⟨dm, ⟨es, cl, (h.block b hl hS).trans hb, r⟩, h2⟩
theorem zeroP (w : World) : (zeroValue 135).run Try.prog w = .ok nilS w := by
  have h : (Try.prog.info? 135).map (·.zero) = some (some nilS) := by kernel_rfl
  obtain ⟨i, hi, hz⟩ := Option.map_eq_some_iff.1 h
  simp [zeroValue, typeInfo, hi, hz]
set_option maxRecDepth 100000 in
theorem MM.look {w : World} {b n : Nat} {f : Nat → Value} (h : MM w b n f) {t : Nat} (ht : t ≤ 4611686018427387904) : (Instr.lookup 82 (.map (some b)) (.int .i64 (t : Int)) false).run Try.prog w = .ok (f t) w := by
  obtain ⟨dm, h1, h2⟩ := h
  obtain ⟨v, ps, hr, hv⟩ := h1.lookup (Maps.int_keyed Try.underlying3) Try.underlying82 (zeroP w) (zd := .held nilS) (zp := []) rfl (kT_of ht)
  rw [hr]
  have e := h2 t
  simp only [RV, Option.some.injEq, Prod.mk.injEq] at hv
  rw [← hv.1] at e
  injection e with e
  rw [e]
theorem MM.put {w : World} {b n : Nat} {f : Nat → Value} (h : MM w b n f) (hn : n < maxLen) {t : Nat} (ht : t ≤ 4611686018427387904) (v : Value) :
    ∃ w', (Instr.mapUpdate 82 (.map (some b)) (.int .i64 (t : Int)) v).run Try.prog w = .ok () w' ∧ MM w' b (n + 1) (fun x => if x = t then v else f x) ∧ w.grownBy w' (some b) := by
  obtain ⟨dm, h1, h2⟩ := h
  obtain ⟨w', hr, h3, h4⟩ := h1.update (Maps.int_keyed Try.underlying3) Try.underlying82 hn (kT_of ht) (val := v) (d := .held v) (ps := []) rfl
  refine ⟨w', hr, ⟨_, h3, fun x => ?_⟩, h4⟩
  dsimp only
  by_cases hx : x = t
  · subst hx
    rw [if_pos rfl, Maps.atKey_put_same h1.isMap (kT_key x)]
  · rw [if_neg hx, Maps.atKey_put_other (kT_ne hx), h2]
theorem MM.del {w : World} {b n : Nat} {f : Nat → Value} (h : MM w b n f) {t : Nat} (ht : t ≤ 4611686018427387904) (ty : TypeId) :
    ∃ w', (Builtin.delete_ #[82, 3] ty #[.map (some b), .int .i64 (t : Int)]).run Try.prog w = .ok (.tuple #[]) w' ∧ MM w' b n (fun x => if x = t then nilS else f x) ∧ w.grownBy w' (some b) := by
  obtain ⟨dm, h1, h2⟩ := h
  obtain ⟨w', hr, h3, h4⟩ := h1.drop (Maps.int_keyed Try.underlying3) Try.underlying82 (kT_of ht) ty
  refine ⟨w', hr, ⟨_, h3, fun x => ?_⟩, h4.grown⟩
  dsimp only
  by_cases hx : x = t
  · subst hx
    rw [if_pos rfl, Maps.atKey_del_same]
  · rw [if_neg hx, Maps.atKey_del_other (kT_ne hx), h2]

/-! ### a net -/
/-- a message: the slice and its bytes -/
structure Msg where
  v : Value
  d : List UInt8
/-- a lane: its channel, what waits, closed, how many are on their way, the channel's counts -/
structure LC where
  c : Nat
  ms : List Msg
  sh : Bool
  la : Nat
  s : Nat
  r : Nat
/-- a message on its way: due, lane, message -/
structure PC where
  t : Nat
  i : Nat
  m : Msg
structure NS where
  nb : Nat
  pb : Nat
  mb : Nat
  mn : Nat
  fv : Value
  fs : List (Int × Int)
  now : Nat
  ls : List LC
  pd : List PC
  rows : Nat → Value
def lc (l : LC) : List Value := [.chan (some l.c), .bool l.sh, .int .i64 (l.la : Int)]
def lcs (ls : List LC) : List Value := ls.flatMap lc
def pc (p : PC) : List Value := [.int .i64 (p.i : Int), p.m.v]
/-- those that are due at t -/
def due (pd : List PC) (t : Nat) : List PC := pd.filter fun p => p.t == t
def chn (l : LC) : Obj := .chan 64 (l.ms.map (·.v)).toArray (l.sh && l.la == 0) l.s l.r false
def fc (f : Int × Int) : List Value := [.int .i64 f.1, .int .i64 f.2]
/-- a list of fates that is read -/
def Fts (w : World) (v : Value) (fs : List (Int × Int)) : Prop :=
  ∃ a c, v = .slice a fs.length c ∧ fs.length ≤ c ∧ c ≤ maxLen ∧ (a = none → fs = [] ∧ c = 0) ∧ ∀ ad, a = some ad → ad.spot = none ∧ (∃ cur, w.heap[ad.block]? = some (.cells cur 58 (0, 0))) ∧ ∀ j u, (fs.flatMap fc)[j]? = some u → w.cell? (ad.add j) = some u
def msgs (S : NS) : List Msg := S.ls.flatMap (·.ms) ++ S.pd.map (·.m)
abbrev ncl (S : NS) : List Value := [.slice (some ⟨S.pb, 0, none⟩) S.ls.length S.ls.length, S.fv, .int .i64 (S.now : Int), .map (some S.mb)]
structure NOk (w : World) (S : NS) : Prop where
  net : At w S.nb 84 (ncl S)
  row : At w S.pb 87 (lcs S.ls)
  chs : ∀ l ∈ S.ls, w.heap[l.c]? = some (chn l)
  cnd : (S.ls.map (·.c)).Nodup
  mm : MM w S.mb S.mn S.rows
  prs : ∀ t, w.ownsRow 0 137 2 (S.rows t) (due S.pd t).length ((due S.pd t).flatMap pc)
  dis : ∀ t t' g, t ≠ t' → (S.rows t).ownBlock = some g → (S.rows t').ownBlock ≠ some g
  fts : Fts w S.fv S.fs
  ms : ∀ m ∈ msgs S, Ow w 0 m.v m.d
/-- what a net's calls write -/
def own (S : NS) (k : Nat) : Prop := k = S.nb ∨ k = S.pb ∨ k = S.mb ∨ (∃ l ∈ S.ls, k = l.c) ∨ ∃ t, (S.rows t).ownBlock = some k
/-- what they read besides -/
def rds (S : NS) (k : Nat) : Prop := S.fv.ownBlock = some k ∨ ∃ m ∈ msgs S, m.v.ownBlock = some k
/-- an object's tag -/
def otag (w : World) (k : Nat) : Option Nat := match w.heap[k]? with
  | some (.cells _ t _) => some t
  | some (.chan ..) => some 1000
  | some (.map ..) => some 1001
  | _ => none
theorem At.tag {w : World} {b : Nat} {t : TypeId} {cs : List Value} (h : At w b t cs) : otag w b = some t := by
  unfold At at h
  simp only [otag, h]
theorem row_tag {w : World} {B n m g : Nat} {e : TypeId} {v : Value} {xs : List Value} (h : w.ownsRow B e m v n xs) (hg : v.ownBlock = some g) : otag w g = some e := by
  rcases h.2 with ⟨rfl, _⟩ | ⟨g1, cap, cur, rfl, _, h1, _⟩
  · cases hg
  · obtain rfl : g1 = g := Option.some.inj hg
    simp only [otag, h1]
theorem NOk.tag {w : World} {S : NS} (h : NOk w S) {k : Nat} (hk : own S k) : otag w k = some 84 ∨ otag w k = some 87 ∨ otag w k = some 1001 ∨ otag w k = some 1000 ∨ otag w k = some 137 := by
  rcases hk with rfl | rfl | rfl | ⟨l, hl, rfl⟩ | ⟨t, ht⟩
  · exact .inl h.net.tag
  · exact .inr (.inl h.row.tag)
  · obtain ⟨es, cl, e⟩ := h.mm.map
    exact .inr (.inr (.inl (by simp only [otag, e])))
  · have e := h.chs l hl
    exact .inr (.inr (.inr (.inl (by simp only [otag, e, chn]))))
  · exact .inr (.inr (.inr (.inr (row_tag (h.prs t) ht))))
theorem Fts.tag {w : World} {v : Value} {fs : List (Int × Int)} (h : Fts w v fs) {k : Nat} (hk : v.ownBlock = some k) : otag w k = some 58 := by
  obtain ⟨a, c, rfl, _, _, _, h1⟩ := h
  cases a with
  | none => cases hk
  | some ad =>
    obtain ⟨_, ⟨cur, h2⟩, _⟩ := h1 ad rfl
    obtain rfl : ad.block = k := Option.some.inj hk
    simp only [otag, h2]
theorem NOk.tagr {w : World} {S : NS} (h : NOk w S) {k : Nat} (hk : rds S k) : otag w k = some 58 ∨ otag w k = some 5 := by
  rcases hk with hk | ⟨m, hm, hk⟩
  · exact .inl (h.fts.tag hk)
  · exact .inr (row_tag (h.ms m hm) hk)
theorem otag_lt {w : World} {k t : Nat} (h : otag w k = some t) : k < w.heap.size := by
  unfold otag at h
  rcases Nat.lt_or_ge k w.heap.size with h1 | h1
  · exact h1
  · rw [Array.getElem?_eq_none h1] at h; cases h
theorem NOk.lt {w : World} {S : NS} (h : NOk w S) {k : Nat} (hk : own S k) : k < w.heap.size := by
  rcases h.tag hk with h | h | h | h | h <;> exact otag_lt h
theorem NOk.ltr {w : World} {S : NS} (h : NOk w S) {k : Nat} (hk : rds S k) : k < w.heap.size := by
  rcases h.tagr hk with h | h <;> exact otag_lt h
theorem Fr.fts {T : Nat → Prop} {w w' : World} {v : Value} {fs : List (Int × Int)} (h : Fr T w w') (k : Fts w v fs) (hT : ∀ g, v.ownBlock = some g → ¬ T g) : Fts w' v fs := by
  have htg := fun g hg => k.tag (k := g) hg
  obtain ⟨a, c, rfl, h1, h2, h3, h4⟩ := k
  refine ⟨a, c, rfl, h1, h2, h3, fun ad e => ?_⟩
  subst e
  obtain ⟨h5, ⟨cur, h6⟩, h7⟩ := h4 ad rfl
  have hb := h.block ad.block (lt_of_at h6) (hT _ rfl)
  refine ⟨h5, ⟨cur, hb.trans h6⟩, fun j u hj => ?_⟩
  have := h7 j u hj
  obtain ⟨b, o, sp⟩ := ad
  obtain rfl : sp = none := h5
  rw [Addr.add_lit] at this ⊢
  rw [World.cell?_of_block (a := ⟨b, o + j, none⟩) hb]
  exact this
/-- what is done beside a net leaves it -/
theorem NOk.fr {T : Nat → Prop} {w w' : World} {S : NS} (h : NOk w S) (k : Fr T w w') (hT : ∀ g, own S g → ¬ T g) (hR : ∀ g, rds S g → ¬ T g) : NOk w' S :=
  ⟨k.at h.net (hT _ (.inl rfl)), k.at h.row (hT _ (.inr (.inl rfl))), fun l hl => (k.block _ (lt_of_at (h.chs l hl)) (hT _ (.inr (.inr (.inr (.inl ⟨l, hl, rfl⟩)))))).trans (h.chs l hl), h.cnd,
   k.mm h.mm (hT _ (.inr (.inr (.inl rfl)))), fun t => k.own (h.prs t) (fun g hg => hT g (.inr (.inr (.inr (.inr ⟨t, hg⟩))))), h.dis, k.fts h.fts (fun g hg => hR g (.inl hg)), fun m hm => k.own (h.ms m hm) (fun g hg => hR g (.inr ⟨m, hm, hg⟩))⟩
theorem fr_of_up {w w' : World} (T : Nat → Prop) (h : Up w w') : Fr T w w' := ⟨h.os, h.tape, h.output, h.size, fun k hk _ => h.block k hk⟩
theorem NOk.up {w w' : World} {S : NS} (h : NOk w S) (k : Up w w') : NOk w' S := h.fr (fr_of_up (fun _ => False) k) (fun _ _ h => h) (fun _ _ h => h)
/-- a net's blocks are old ones, or new -/
def Nw (N : Nat) (S S' : NS) : Prop := (∀ k, own S' k → own S k ∨ N ≤ k) ∧ ∀ k, rds S' k → rds S k ∨ N ≤ k
theorem Nw.refl (N : Nat) (S : NS) : Nw N S S := ⟨fun _ h => .inl h, fun _ h => .inl h⟩
theorem Nw.trans {N N' : Nat} {s s1 s2 : NS} (h : Nw N s s1) (k : Nw N' s1 s2) (hn : N ≤ N') : Nw N s s2 :=
  ⟨fun b hb => (k.1 b hb).elim (h.1 b) (fun h => .inr (Nat.le_trans hn h)), fun b hb => (k.2 b hb).elim (h.2 b) (fun h => .inr (Nat.le_trans hn h))⟩
end Go.Proofs.Ytdlfkdehfenemaa
