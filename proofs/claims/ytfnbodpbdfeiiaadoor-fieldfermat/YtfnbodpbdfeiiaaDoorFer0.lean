import Derived.Test.YtfnbodpbdfeiiaaDoorPow
import Derived.Test.YtfnbodpbdfeiiaaDoorLeg
import Derived.Test.YtfnbodpbdfeiiaaDoorInts
import Derived.Test.YtfnbodpbdfeiiaaDoorInv2
namespace Go.Proofs.YtfnbodpbdfeiiaaDoor
open Go.RowKit Go.Shelf FieldNum

theorem prime_is (pp : Nat) (h : pp = p) (w : World) : Calls Tryd.prog 19 #[] w fun e w' => e = .returned (bv pp) ∧ Grown w w' := by
  rw [h]
  exact prime_any w

theorem wpList_skipU {ops : Array Oper} {Q : Exit → Act → World → Prop} {rest : List Oper} {o : Oper} {a : Act} {w : World} (hw : Region.wanted o (yielded ops a.tmps) = false)
    (h : wpList Tryd.prog ops Q rest (a.put o.dst undef) w) : wpList Tryd.prog ops Q (o :: rest) a w :=
  wpList_step fun _ hK => by
    rw [if_neg (by rw [hw]; decide)]
    exact hK _ _ h

/-- one byte is stored -/
theorem wpList_store8 {ops : Array Oper} {Q : Exit → Act → World → Prop} {rest : List Oper} {op : Oper} {a : Act} {w : World} (hgd : op.guard = none) {x y : Operand} (ho : op.op = .store 5 x y) (b i : Nat) (v : Int) (hi : i < 32)
    (hx : a.eval x = .pointer (some ⟨b, i, none⟩)) (hy : a.eval y = .int .u8 v) (ht : w.there b 0 32)
    (h : ∀ w2, w2 = w.setCell ⟨b, i, none⟩ (.int .u8 v) → wpList Tryd.prog ops Q rest (a.put op.dst undef) w2) : wpList Tryd.prog ops Q (op :: rest) a w :=
  wpList_plain hgd fun _ hK => by
    obtain ⟨h1, h2⟩ := ht i hi
    rw [Nat.zero_add] at h1 h2
    obtain ⟨u, hu⟩ := Option.isSome_iff_exists.1 h1
    unfold Oper.wp execOp
    simp only [ho, hx, hy]
    simp [go_sem, hu, h2]
    exact hK _ _ (h _ rfl)

theorem byte_set {wr : World} {b n m i : Nat} {v : Nat} (hi : i < 32) (hv : m / 256 ^ i % 256 = v) (hm : ∀ j, j < 32 → j ≠ i → m / 256 ^ j % 256 = n / 256 ^ j % 256) (h : wr.rangeAt b 0 (bl n)) :
    (wr.setCell ⟨b, i, none⟩ (.int .u8 (v : Int))).rangeAt b 0 (bl m) := by
  intro j u hu
  have hj : j < 32 := by have := (List.getElem?_eq_some_iff.1 hu).1; rwa [bl_length] at this
  rw [bl_get _ j hj] at hu
  injection hu with hu
  subst hu
  rw [Nat.zero_add]
  by_cases e : j = i
  · subst e
    have := h j _ (bl_get n j hj)
    rw [Nat.zero_add] at this
    rw [hv]
    exact World.cell?_setCell_same _ _ _ this
  · rw [set_other _ _ _ _ _ e, hm j hj e]
    have := h j _ (bl_get n j hj)
    rwa [Nat.zero_add] at this
end Go.Proofs.YtfnbodpbdfeiiaaDoor
