import Derived.Test.YtehnnlhoajdcaaaGreatDoorXl
import Derived.Shelf.Small.Strs
namespace Go.Proofs.YtehnnlhoajdcaaaGreatDoor
open Go.RowKit TextNum
def mks : ByteArray := ⟨#[45, 46, 95, 126, 33, 36, 38, 39, 40, 41, 42, 43, 44, 59, 61, 58, 64, 47]⟩
def pl (c : UInt8) : Bool := isL c || mks.data.toList.contains c
theorem ixb_ge (c : UInt8) : ∀ l : List UInt8, (0 ≤ Go.Lib.indexByte l c ↔ c ∈ l) ∧ -1 ≤ Go.Lib.indexByte l c
 | [] => by simp [Go.Lib.indexByte]
 | b :: l => by
  obtain ⟨h1, h2⟩ := ixb_ge c l
  unfold Go.Lib.indexByte
  by_cases hb : b = c
  · subst hb
    simp
  rw [if_neg (by simpa using hb)]
  by_cases hm : Go.Lib.indexByte l c = -1
  · rw [if_pos (by simpa using hm)]
    have : ¬ c ∈ l := fun e => by have := h1.2 e; omega
    simp [this, Ne.symm hb]
  rw [if_neg (by simpa using hm)]
  have : c ∈ l := h1.1 (by omega)
  simp [this]
  omega
theorem ixb_con (l : List UInt8) (c : UInt8) : decide (0 ≤ Go.Lib.indexByte l c) = l.contains c := by
 rw [Bool.eq_iff_iff, decide_eq_true_iff, (ixb_ge c l).1]
 simp
def hxv (c : UInt8) : Option UInt8 := if isD c = true then some (c - 48) else if 97 ≤ (lw c).toNat ∧ (lw c).toNat ≤ 102 then some (lw c - 97 + 10) else none
set_option maxRecDepth 100000 in
theorem hexDigit_walk (c : UInt8) (w : World) : Calls Tryz.prog 159 #[vb c] w fun e w' => e = .returned (.tuple #[vb ((hxv c).getD 0), .bool (hxv c).isSome]) ∧ w' = w := by
 have HD := Ho (isDigit_walk c w)
 have HW := Ho (lower_walk c w)
 unfold hxv
 have hcl := c.toNat_lt
 cases hd : isD c with
 | true =>
  have hdd : 48 ≤ c.toNat ∧ c.toNat ≤ 57 := by simpa [isD] using hd
  have HX := Ho (show ((c - 48).toNat : Int) = (c.toNat : Int) - 48 by
   rw [UInt8.toNat_sub_of_le _ _ (by rw [UInt8.le_iff_toNat_le]; simpa using hdd.1)]
   have : (48 : UInt8).toNat = 48 := rfl
   omega)
  have z1 : (48 : Int) ≤ (c.toNat : Int) := by omega
  have z2 : (c.toNat : Int) ≤ 57 := by omega
  rw [hd] at HD
  rw [if_pos rfl]
  go_enter Tryz.func159, Tryz.ntmps159
  go_wp2_with fail
  refine HW.o.mono ?_
  rintro e w9 ⟨rfl, h9⟩
  obtain rfl := h9.symm
  clear h9
  dsimp only
  go_wp2_with fail
  refine HD.o.mono ?_
  rintro e w9 ⟨rfl, h9⟩
  obtain rfl := h9.symm
  clear h9
  dsimp only
  go_wp2
  go_ret2
  refine ⟨?_, rfl⟩
  show Ending.returned (Value.tuple #[.int .u8 ((c.toNat : Int) - 48), .bool true]) = Ending.returned (Value.tuple #[.int .u8 ((c - 48).toNat : Int), .bool true])
  rw [HX.o]
 | false =>
  rw [hd] at HD
  rw [if_neg (by simp)]
  have hdl := (lw c).toNat_lt
  generalize lw c = d at *
  by_cases h1 : 97 ≤ d.toNat
  case' _ =>
   have z1 : (97 : Int) ≤ (d.toNat : Int) := by omega
   by_cases h2 : d.toNat ≤ 102
   · have z2 : (d.toNat : Int) ≤ 102 := by omega
     rw [if_pos ⟨h1, h2⟩]
     have HX := Ho (show ((d - 97 + 10).toNat : Int) = (d.toNat : Int) - 97 + 10 by
      rw [UInt8.toNat_add, UInt8.toNat_sub_of_le _ _ (by rw [UInt8.le_iff_toNat_le]; simpa using h1)]
      have : (97 : UInt8).toNat = 97 := rfl
      have : (10 : UInt8).toNat = 10 := rfl
      omega)
     go_enter Tryz.func159, Tryz.ntmps159
     go_wp2_with fail
     refine HW.o.mono ?_
     rintro e w9 ⟨rfl, h9⟩
     obtain rfl := h9.symm
     clear h9
     dsimp only
     go_wp2_with fail
     refine HD.o.mono ?_
     rintro e w9 ⟨rfl, h9⟩
     obtain rfl := h9.symm
     clear h9
     dsimp only
     go_wp2
     go_ret2
     refine ⟨?_, rfl⟩
     show Ending.returned (Value.tuple #[.int .u8 ((d.toNat : Int) - 97 + 10), .bool true]) = Ending.returned (Value.tuple #[.int .u8 ((d - 97 + 10).toNat : Int), .bool true])
     rw [HX.o]
   have z2 : decide ((d.toNat : Int) ≤ 102) = false := by rw [decide_eq_false_iff_not]; omega
   have z3 : ¬ (d.toNat : Int) ≤ 102 := by omega
   rw [if_neg (fun h => h2 h.2)]
  rotate_left
  case' _ =>
   have z1 : ¬ (97 : Int) ≤ (d.toNat : Int) := by omega
   rw [if_neg (fun h => h1 h.1)]
  all_goals
   go_enter Tryz.func159, Tryz.ntmps159
   go_wp2_with fail
   refine HW.o.mono ?_
   rintro e w9 ⟨rfl, h9⟩
   obtain rfl := h9.symm
   clear h9
   dsimp only
   go_wp2_with fail
   refine HD.o.mono ?_
   rintro e w9 ⟨rfl, h9⟩
   obtain rfl := h9.symm
   clear h9
   dsimp only
   go_wp2
   go_ret2
   exact ⟨rfl, rfl⟩
end Go.Proofs.YtehnnlhoajdcaaaGreatDoor
