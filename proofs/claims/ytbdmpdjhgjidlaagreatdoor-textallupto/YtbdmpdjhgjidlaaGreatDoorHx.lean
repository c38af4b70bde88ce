import Derived.Test.YtbdmpdjhgjidlaaGreatDoorHd
import Derived.Test.YtbdmpdjhgjidlaaGreatDoorTa
import Derived.Deep.RegionLaw
namespace Go.Proofs.YtbdmpdjhgjidlaaGreatDoor
open Go.RowKit TextNum

set_option maxRecDepth 100000 in
theorem tooLong_walk (s : ByteArray) (w : World) : Calls Tryz.prog 7 #[.string s] w fun e w' => e = .returned (.bool (decide (1048576 < s.size))) ∧ w' = w := by
  go_enter Tryz.func7, Tryz.ntmps7
  go_wp2
  go_ret
  refine ⟨congrArg (fun b => Ending.returned (Value.bool b)) (show decide ((1048576 : Int) < (s.size : Int)) = decide (1048576 < s.size) from ?_), rfl⟩
  rw [decide_eq_decide]
  omega

def hv (c : UInt8) : Nat := (pl DT c).getD 0
theorem hv_lt (c : UInt8) : hv c < 16 := by
  unfold hv
  cases h : pl DT c with
  | none => decide
  | some i => exact (pl_dg h).2
def bdV (a b : UInt8) : Value := .tuple #[.int .u8 ((16 * hv a + hv b : Nat) : Int), .bool ((pl DT a).isSome && (pl DT b).isSome)]
set_option maxRecDepth 100000 in
theorem byteOfDigits_walk (a b : UInt8) (w : World) (hT : TabD w) : Calls Tryz.prog 51 #[vb a, vb b] w fun e w' => e = .returned (bdV a b) ∧ w' = w := by
  have HT := Hid.of hT
  clear hT
  go_enter Tryz.func51, Tryz.ntmps51
  go_wp2_with fail
  refine (digitNumber_walk a _ HT.out).mono ?_
  rintro e w' ⟨rfl, rfl⟩
  unfold dnV
  go_wp2_with fail
  refine (digitNumber_walk b _ HT.out).mono ?_
  rintro e w2 ⟨rfl, rfl⟩
  unfold dnV
  dsimp only
  have h1 := hv_lt a
  have h2 := hv_lt b
  rw [show (pl DT a).getD 0 = hv a from rfl, show (pl DT b).getD 0 = hv b from rfl]
  generalize hxa : hv a = x at *
  generalize hyb : hv b = y at *
  have HX := Hid.of (And.intro hxa hyb)
  clear hxa hyb
  cases hp : (pl DT a).isSome with
  | false =>
    go_wp2
    go_ret2
    refine ⟨?_, rfl⟩
    unfold bdV
    rw [HX.out.1, HX.out.2, hp]; simp
  | true =>
    go_wp2
    go_ret2
    refine ⟨?_, rfl⟩
    unfold bdV
    rw [HX.out.1, HX.out.2, hp]; simp

set_option maxRecDepth 100000 in
theorem appendDigits_walk (B : Nat) (v : Value) (l : List UInt8) (x : UInt8) (w : World) (hT : TabD w) (hown : Own w B v l) (hn : l.length + 2 ≤ 140737488355328) (hB : B ≤ w.heap.size) :
    Calls Tryz.prog 28 #[v, vb x] w fun e w' => ∃ v', e = .returned v' ∧ Own w' B v' (l ++ [dg (x.toNat / 16), dg (x.toNat % 16)]) ∧ Below B w w' := by
  have hx : x.toNat < 256 := x.toNat_lt
  have c1 := hT (x.toNat / 16) (by omega)
  have c2 := hT (x.toNat % 16) (by omega)
  have HO := Hid.of (And.intro hown (And.intro hn hB))
  clear hT hown hn hB
  have e1 : IntKind.u8.wrap ((x.toNat : Int) / 16) = ((x.toNat / 16 : Nat) : Int) := by
    simp only [IntKind.wrap, IntKind.signed, IntKind.bits]; simp; omega
  have e2 : ((x.toNat : Int)).tmod 16 = ((x.toNat % 16 : Nat) : Int) := by
    rw [Int.tmod_eq_emod_of_nonneg (by omega)]; omega
  have b1 : ((x.toNat / 16 : Nat) : Int) < 16 := by omega
  have b2 : ((x.toNat % 16 : Nat) : Int) < 16 := by omega
  rw [show vb x = .int .u8 (x.toNat : Int) from rfl]
  generalize x.toNat / 16 = h at *
  generalize x.toNat % 16 = k at *
  generalize x.toNat = n at *
  go_enter Tryz.func28, Tryz.ntmps28
  go_wp2
  go_region_law (refine step_app1 rfl (.tmp 5) (.tmp 14) rfl B v l [dg h, dg k] rfl (Own.below HO.out.1 (Up.drew (Up.refl _))) 2 rfl HO.out.2.1 HO.out.2.2 ?_; intro v' w1 h1 h2)
  all_goals go_wp2
  all_goals go_ret
  all_goals exact ⟨_, rfl, h1, ((Below.refl B w).drew).trans h2⟩
end Go.Proofs.YtbdmpdjhgjidlaaGreatDoor
