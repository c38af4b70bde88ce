import Derived.Test.YtehnnlhoajdcaaaGreatDoorBa
import Derived.Test.YtehnnlhoajdcaaaGreatDoorSl
import Derived.Lib.Bytealg
namespace Go.Proofs.YtehnnlhoajdcaaaGreatDoor
open Go.RowKit TextNum
def lw (c : UInt8) : UInt8 := if 65 ≤ c.toNat ∧ c.toNat ≤ 90 then UInt8.ofNat (c.toNat + 32) else c
theorem lw_yes {c : UInt8} (h1 : 65 ≤ c.toNat) (h2 : c.toNat ≤ 90) : (lw c).toNat = c.toNat + 32 := by
 unfold lw
 rw [if_pos ⟨h1, h2⟩, UInt8.toNat_ofNat', Nat.mod_eq_of_lt (by omega)]
theorem lw_no {c : UInt8} (h : ¬ (65 ≤ c.toNat ∧ c.toNat ≤ 90)) : lw c = c := by
 unfold lw
 rw [if_neg h]
set_option maxRecDepth 100000 in
theorem lower_walk (c : UInt8) (w : World) : Calls Tryz.prog 139 #[vb c] w fun e w' => e = .returned (vb (lw c)) ∧ w' = w := by
 have hc := c.toNat_lt
 by_cases h1 : 65 ≤ c.toNat
 · by_cases h2 : c.toNat ≤ 90
   · have HL := Ho (lw_yes h1 h2)
     have z1 : (65 : Int) ≤ (c.toNat : Int) := by omega
     have z2 : (c.toNat : Int) ≤ 90 := by omega
     generalize lw c = d at *
     go_enter Tryz.func139, Tryz.ntmps139
     go_wp2
     go_ret
     refine ⟨?_, rfl⟩
     show Ending.returned (Value.int .u8 ((c.toNat : Int) - 65 + 97)) = Ending.returned (Value.int .u8 ((d.toNat : Nat) : Int))
     rw [HL.o, show ((c.toNat + 32 : Nat) : Int) = (c.toNat : Int) - 65 + 97 by omega]
   have HL := Ho (lw_no (c := c) (by omega))
   have z1 : (65 : Int) ≤ (c.toNat : Int) := by omega
   have z2 : ¬ (c.toNat : Int) ≤ 90 := by omega
   rw [HL.o]
   go_enter Tryz.func139, Tryz.ntmps139
   go_wp2
   go_ret
   exact ⟨rfl, rfl⟩
 have HL := Ho (lw_no (c := c) (by omega))
 have z1 : ¬ (65 : Int) ≤ (c.toNat : Int) := by omega
 rw [HL.o]
 go_enter Tryz.func139, Tryz.ntmps139
 go_wp2
 go_ret
 exact ⟨rfl, rfl⟩
def isD (c : UInt8) : Bool := decide (48 ≤ c.toNat) && decide (c.toNat ≤ 57)
def isL (c : UInt8) : Bool := isD c || (decide (97 ≤ (lw c).toNat) && decide ((lw c).toNat ≤ 122))
def ctl (c : UInt8) : Bool := decide (c.toNat < 32) || decide (c.toNat = 127)
set_option maxRecDepth 100000 in
theorem isDigit_walk (c : UInt8) (w : World) : Calls Tryz.prog 169 #[vb c] w fun e w' => e = .returned (.bool (isD c)) ∧ w' = w := by
 unfold isD
 by_cases h1 : 48 ≤ c.toNat
 · have z1 : (48 : Int) ≤ (c.toNat : Int) := by omega
   by_cases h2 : c.toNat ≤ 57
   · have z2 : (c.toNat : Int) ≤ 57 := by omega
     rw [decide_eq_true h1, decide_eq_true h2]
     go_enter Tryz.func169, Tryz.ntmps169
     go_wp2
     go_ret
     exact ⟨rfl, rfl⟩
   have z2 : ¬ (c.toNat : Int) ≤ 57 := by omega
   rw [decide_eq_true h1, decide_eq_false h2]
   go_enter Tryz.func169, Tryz.ntmps169
   go_wp2
   go_ret
   exact ⟨rfl, rfl⟩
 have z1 : ¬ (48 : Int) ≤ (c.toNat : Int) := by omega
 rw [decide_eq_false h1]
 go_enter Tryz.func169, Tryz.ntmps169
 go_wp2
 go_ret
 exact ⟨rfl, rfl⟩
set_option maxRecDepth 100000 in
theorem isControl_walk (c : UInt8) (w : World) : Calls Tryz.prog 144 #[vb c] w fun e w' => e = .returned (.bool (ctl c)) ∧ w' = w := by
 unfold ctl
 by_cases h1 : c.toNat < 32
 · have z1 : (c.toNat : Int) < 32 := by omega
   rw [decide_eq_true h1]
   go_enter Tryz.func144, Tryz.ntmps144
   go_wp2
   go_ret
   exact ⟨rfl, rfl⟩
 have z1 : ¬ (c.toNat : Int) < 32 := by omega
 by_cases h2 : c.toNat = 127
 · have z2 : ((c.toNat : Int) == 127) = true := by rw [beq_iff_eq]; omega
   rw [decide_eq_false h1, decide_eq_true h2]
   go_enter Tryz.func144, Tryz.ntmps144
   go_wp2
   go_ret
   exact ⟨rfl, rfl⟩
 have z2 : ((c.toNat : Int) == 127) = false := by rw [beq_eq_false_iff_ne]; omega
 rw [decide_eq_false h1, decide_eq_false h2]
 go_enter Tryz.func144, Tryz.ntmps144
 go_wp2
 go_ret
 exact ⟨rfl, rfl⟩
set_option maxRecDepth 100000 in
theorem isLetterOrDigit_walk (c : UInt8) (w : World) : Calls Tryz.prog 131 #[vb c] w fun e w' => e = .returned (.bool (isL c)) ∧ w' = w := by
 have HD := Ho (isDigit_walk c w)
 unfold isL
 cases hd : isD c with
 | true =>
  rw [hd] at HD
  go_enter Tryz.func131, Tryz.ntmps131
  go_wp2_with fail
  refine HD.o.mono ?_
  rintro e w9 ⟨rfl, h9⟩
  obtain rfl := h9.symm
  clear h9
  dsimp only
  go_wp2
  go_ret
  exact ⟨rfl, rfl⟩
 | false =>
  rw [hd] at HD
  have HW := Ho (lower_walk c w)
  generalize lw c = d at *
  by_cases h1 : 97 ≤ d.toNat
  · have z1 : (97 : Int) ≤ (d.toNat : Int) := by omega
    rw [decide_eq_true h1]
    by_cases h2 : d.toNat ≤ 122
    case' _ =>
     have z2 : (d.toNat : Int) ≤ 122 := by omega
     rw [decide_eq_true h2]
    rotate_left
    case' _ =>
     have z2 : decide ((d.toNat : Int) ≤ 122) = false := by rw [decide_eq_false_iff_not]; omega
     rw [decide_eq_false h2]
    all_goals
     go_enter Tryz.func131, Tryz.ntmps131
     go_wp2_with fail
     refine HD.o.mono ?_
     rintro e w9 ⟨rfl, h9⟩
     obtain rfl := h9.symm
     clear h9
     dsimp only
     go_wp2_with fail
     refine HW.o.mono ?_
     rintro e w9 ⟨rfl, h9⟩
     obtain rfl := h9.symm
     clear h9
     dsimp only
     go_wp2_with fail
     refine HW.o.mono ?_
     rintro e w9 ⟨rfl, h9⟩
     obtain rfl := h9.symm
     clear h9
     dsimp only
     go_wp2
     go_ret
     exact ⟨rfl, rfl⟩
  have z1 : ¬ (97 : Int) ≤ (d.toNat : Int) := by omega
  rw [decide_eq_false h1]
  go_enter Tryz.func131, Tryz.ntmps131
  go_wp2_with fail
  refine HD.o.mono ?_
  rintro e w9 ⟨rfl, h9⟩
  obtain rfl := h9.symm
  clear h9
  dsimp only
  go_wp2_with fail
  refine HW.o.mono ?_
  rintro e w9 ⟨rfl, h9⟩
  obtain rfl := h9.symm
  clear h9
  dsimp only
  go_wp2
  go_ret
  exact ⟨rfl, rfl⟩
end Go.Proofs.YtehnnlhoajdcaaaGreatDoor
