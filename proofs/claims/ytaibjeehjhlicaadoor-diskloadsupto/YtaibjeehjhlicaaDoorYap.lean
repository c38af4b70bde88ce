import Derived.Test.YtaibjeehjhlicaaDoorYac
namespace Go.Proofs.YtaibjeehjhlicaaDoor
open Go.RowKit Go.Shelf TextNum ModNum
def nmE (l : List UInt8) : Int := if isNm l = true then 0 else 120
/-- the disk with one act counted -/
abbrev acS (s : DD) : DD := { s with acts := s.acts + 1, unt := s.unt - 1, flt := s.flt, dead := s.dead }
theorem DOk.disk0 {w : World} {B D T : Nat} {s : DD} (h : DOk w B D T s) (hd : s.dead = false) : At w D 58 [.int .i64 (s.room : Int), .int .i64 (usd s.nf : Int), .bool false, .map (some s.M), .map (some s.L), s.vC, s.vLo, .int .i64 (lsd (fls s) : Int), .int .i64 (s.trn : Int), .int .i64 (s.acts : Int), .int .i64 (s.unt : Int), .int .i64 s.flt] := by
  have := h.disk
  unfold dcl at this
  rw [hd] at this
  exact this
theorem DOk.acs {w w1 : World} {B D T : Nat} {s : DD} (h : DOk w B D T s) (hd : s.dead = false) (g : w.grownBy w1 (some D)) (hd1 : At w1 D 58 [.int .i64 (s.room : Int), .int .i64 (usd s.nf : Int), .bool false, .map (some s.M), .map (some s.L), s.vC, s.vLo, .int .i64 (lsd (fls s) : Int), .int .i64 (s.trn : Int), .int .i64 ((s.acts + 1 : Nat) : Int), .int .i64 ((s.unt - 1 : Nat) : Int), .int .i64 s.flt]) (hT : T + 1 ≤ 100000) :
    DOk w1 B D (T + 1) (acS s) ∧ Fr (fun k => k = D) w w1 := by
  have hn := h.num
  refine h.acted g (s.acts + 1) (s.unt - 1) s.flt s.dead ?_ (by omega) hT
  rw [hd]
  exact hd1
/-- what an act leaves -/
def Aft (w w' : World) (B D T : Nat) (s s' : DD) : Prop := DOk w' B D (T + 2) s' ∧ Nw w.heap.size D s s' ∧ Fr (own D s) w w'
theorem DOk.more {w : World} {B D T T' : Nat} {s : DD} (h : DOk w B D T s) (hT : T ≤ T') (hT' : T' ≤ 100000) : DOk w B D T' s := by
  obtain ⟨n1, n2, n3, n4, n5, n6, n7, n8, n9, n10, n11⟩ := h.num
  exact { h with
    sz := fun f hf => by have := h.sz f hf; omega
    num := by omega }
end Go.Proofs.YtaibjeehjhlicaaDoor
