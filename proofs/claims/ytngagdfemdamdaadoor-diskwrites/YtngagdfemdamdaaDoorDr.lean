import Derived.Test.YtngagdfemdamdaaDoorDq
import Derived.Test.YtngagdfemdamdaaDoorDp
import Derived.Test.YtngagdfemdamdaaDoorDk
namespace Go.Proofs.YtngagdfemdamdaaDoor
open Go.RowKit Go.Shelf TextNum ModNum
set_option maxRecDepth 100000 in
set_option maxHeartbeats 1000000 in
theorem within_walk (n : Int) (w : World) : Calls Tryd.prog 7 #[.int .i64 n, .int .i64 0, .int .i64 4000] w fun e w' => ∃ k : Nat, k ≤ 4000 ∧ e = .returned (.int .i64 (k : Int)) ∧ w' = w := by
  have h1 := Int.tmod_lt_of_pos n (show (0 : Int) < 4001 by decide)
  have h2 : -4001 < n.tmod 4001 := by
    have h3 := Int.tmod_lt_of_pos (-n) (show (0 : Int) < 4001 by decide)
    rw [Int.neg_tmod] at h3
    omega
  generalize hr : n.tmod 4001 = r at *
  go_enter Tryd.func7, Tryd.ntmps7
  by_cases hz : r < 0
  · go_wp2
    go_ret
    exact ⟨(r + 4001).toNat, by omega, by rw [show (((r + 4001).toNat : Nat) : Int) = r + 4000 + 1 by omega]; rfl, rfl⟩
  · go_wp2
    go_ret
    exact ⟨r.toNat, by omega, by rw [show ((r.toNat : Nat) : Int) = r by omega]; rfl, rfl⟩
/-- a patch that is read -/
structure PT where
  at_ : Int
  vd : Value
  ds : List UInt8
def PSl (w : World) (v : Value) (ps : List PT) : Prop :=
  (∃ a c, v = .slice a ps.length c ∧ ps.length ≤ c ∧ ∀ i (h : i < ps.length), ∃ b off, a = some ⟨b, off, none⟩ ∧ w.cell? ⟨b, off + i * 2, none⟩ = some (.int .i64 ps[i].at_) ∧ w.cell? ⟨b, off + i * 2 + 1, none⟩ = some ps[i].vd) ∧
  ∀ p ∈ ps, Sb w p.vd p.ds ∧ p.ds.length ≤ 140737488355000 ∧ -9223372036854775808 ≤ p.at_ ∧ p.at_ ≤ 9223372036854775807
/-- what holds between the steps -/
structure RJ (w0 wr : World) (D M F T room : Nat) (vW : Value) (ws nb : List UInt8) (s : DS) : Prop where
  inv : Inv wr w0.heap.size D M F T s
  own : Ow wr w0.heap.size vW ws
  same : s.nb = nb
  ap : Wap vW s
  up : Up w0 wr
  room : s.room = room
theorem RJ.upTo {w0 wr w5 : World} {D M F T room : Nat} {vW : Value} {ws nb : List UInt8} {s : DS} (h : RJ w0 wr D M F T room vW ws nb s) (u : Up wr w5) : RJ w0 w5 D M F T room vW ws nb s :=
  ⟨h.inv.up u, ow_up h.own u, h.same, h.ap, h.up.trans u, h.room⟩
theorem RJ.next {w0 wr w6 : World} {D M F T T' room : Nat} {vW : Value} {ws nb nb' : List UInt8} {s s6 : DS} (h : RJ w0 wr D M F T room vW ws nb s) (i6 : Inv w6 w0.heap.size D M F T' s6) (e6 : s6.nb = nb') (n6 : Nx wr s s6) (f6 : Fr (Sd D F s) wr w6) : RJ w0 w6 D M F T' room vW ws nb' s6 :=
  ⟨i6, Ow.fr h.inv h.own h.ap f6, e6, Wap.nx h.own h.ap n6, up_fr h.up h.inv f6, n6.room.trans h.room⟩
theorem RJ.mono {w0 wr : World} {D M F T T' room : Nat} {vW : Value} {ws nb : List UInt8} {s : DS} (h : RJ w0 wr D M F T room vW ws nb s) (hT : T ≤ T') (h2 : T' ≤ 100000) : RJ w0 wr D M F T' room vW ws nb s :=
  ⟨⟨h.inv.ml, h.inv.low, h.inv.hB, h.inv.disk, h.inv.map, h.inv.file, h.inv.now, h.inv.last, h.inv.apart, h.inv.loose, h.inv.each, h.inv.room, h.inv.nbl, h.inv.lbl, by have := h.inv.num; omega⟩, h.own, h.same, h.ap, h.up, h.room⟩
theorem RJ.wants {w0 wr w6 : World} {D M F T room : Nat} {vW vW' : Value} {ws ws' nb : List UInt8} {s : DS} (h : RJ w0 wr D M F T room vW ws nb s) (o : Ow w6 w0.heap.size vW' ws') (g : wr.grownBy w6 vW.ownBlock) (f : Frs wr vW vW') : RJ w0 w6 D M F T room vW' ws' nb s :=
  ⟨h.inv.wanted h.own (Nat.le_refl _) h.ap g, o, h.same, Wap.frs h.inv h.ap f, h.up.by g (fun k hk => (World.ownsRow.lt h.own k hk).1), h.room⟩
end Go.Proofs.YtngagdfemdamdaaDoor
