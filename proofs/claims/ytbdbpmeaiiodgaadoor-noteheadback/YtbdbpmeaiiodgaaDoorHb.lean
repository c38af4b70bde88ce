import Derived.Test.YtbdbpmeaiiodgaaDoorHz
import Derived.Test.YtbdbpmeaiiodgaaDoorEh
import Derived.Test.YtbdbpmeaiiodgaaDoorNn
namespace Go.Proofs.YtbdbpmeaiiodgaaDoor
open Go.RowKit Go.Shelf TextNum
theorem log_fmt : fmtH ⟨#[108, 111, 103]⟩ 7 (List.replicate 32 0) = ([108, 111, 103, 10, 55, 10, 65, 65, 65, 65, 65, 65, 65, 65, 65, 65, 65, 65, 65, 65, 65, 65, 65, 65, 65, 65, 65, 65, 65, 65, 65, 65, 65, 65, 65, 65, 65, 65, 65, 65, 65, 65, 65, 65, 65, 65, 65, 65, 65, 61, 10], 0) := by decide +kernel
theorem range_up {w w' : World} {b o : Nat} {cs : List Value} (h : w.rangeAt b o cs) (k : Up w w') : w'.rangeAt b o cs := fun j v hv => k.cell (h j v hv)
theorem wpList_yield {P : Program} {ops : Array Oper} {rest : List Oper} {o : Oper} {a : Act} {w : World} {Q : Exit → Act → World → Prop} {v : Value} (hg : o.guard = none)
    (hr : (execOp a.eval o).run P w = .ok (.value v) w) (h : wpList P ops Q rest (a.put o.dst v) w) : wpList P ops Q (o :: rest) a w :=
  wpList_plain hg fun _ hK => by
    unfold Oper.wp
    rw [hr]
    exact hK _ _ h
theorem sl_head {w : World} {b : Nat} {o : ByteArray} {n : Int} {r : List UInt8} {cs : List Value} (h : w.rangeAt b 0 cs) (hc : headC o n r = cs) (hr : r.length = 32) : Sl w (.slice (some ⟨b, 2, none⟩) 32 32) r := by
  subst hc
  have hg : ∀ i (hi : i < r.length), w.cell? ⟨b, 2 + i, none⟩ = some (.int .u8 (r[i].toNat : Int)) := fun i hi => by
    have := h (2 + i) (.int .u8 (r[i].toNat : Int)) (by rw [headC, Nat.add_comm, List.getElem?_cons_succ, List.getElem?_cons_succ, cb_get hi])
    rwa [Nat.zero_add] at this
  exact ⟨_, _, by rw [hr], by omega, .inr ⟨_, _, rfl, block_lt_of_cell (hg 0 (by omega)), hg⟩⟩
end Go.Proofs.YtbdbpmeaiiodgaaDoor
