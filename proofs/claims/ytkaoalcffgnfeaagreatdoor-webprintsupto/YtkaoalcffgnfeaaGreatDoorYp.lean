import Derived.Shelf.Small.Wraps
import Derived.Test.YtkaoalcffgnfeaaGreatDoorYo
import Derived.Test.YtkaoalcffgnfeaaGreatDoorYj
namespace Go.Proofs.YtkaoalcffgnfeaaGreatDoor
open Go.RowKit TextNum
def htp : ByteArray := ⟨#[72, 84, 84, 80, 47]⟩
def v3 (l : List UInt8) : Bool := match l with
 | [a, b, c] => isD a && b == 46 && isD c
 | _ => false
def vok (l : List UInt8) : Bool := Go.Lib.hasPrefix l htp.data.toList && v3 (l.drop 5)
theorem three {s : ByteArray} (h : s.size = 3) : s.data.toList = [s[0], s[1], s[2]] := by
 have hl : s.data.toList.length = 3 := by rw [← Go.Lib.size_eq]; exact h
 match hm : s.data.toList, hl with
 | [a, b, c], _ =>
  have h0 : s[0] = a := by rw [sget' s 0 (by omega)]; simp [hm]
  have h1 : s[1] = b := by rw [sget' s 1 (by omega)]; simp [hm]
  have h2 : s[2] = c := by rw [sget' s 2 (by omega)]; simp [hm]
  rw [h0, h1, h2]
theorem v3_no {l : List UInt8} (h : l.length ≠ 3) : v3 l = false := by
 match l with
 | [] => rfl
 | [_] => rfl
 | [_, _] => rfl
 | [a, b, c] => exact absurd rfl h
 | _ :: _ :: _ :: _ :: _ => rfl
set_option maxRecDepth 100000 in
set_option maxHeartbeats 1000000 in
theorem isVersion_walk (s : ByteArray) (w : World) : Calls Tryz.prog 104 #[.string s] w fun e w' => e = .returned (.bool (vok s.data.toList)) ∧ w' = w := by
 have hC : Calls Tryz.prog 130 #[.string s, .string htp] w _ := Any.strings_CutPrefix Tryz.lays103 s htp w
 cases hp : Go.Lib.hasPrefix s.data.toList htp.data.toList with
 | false =>
  rw [hp] at hC
  have HE := Ho (show vok s.data.toList = false by unfold vok; rw [hp]; rfl)
  generalize Go.Lib.trimPrefix s.data.toList htp.data.toList = tl at *
  unfold htp at hC
  have HC := Ho hC
  clear hC hp
  go_enter Tryz.func104, Tryz.ntmps104
  go_wp2_with fail
  refine HC.o.mono ?_
  rintro e w9 ⟨rfl, h9⟩
  obtain rfl := h9.symm
  clear h9
  dsimp only
  go_wp2
  go_ret
  rw [HE.o]
  exact ⟨rfl, rfl⟩
 | true =>
  rw [hp] at hC
  have htr : Go.Lib.trimPrefix s.data.toList htp.data.toList = s.data.toList.drop 5 := by
   unfold Go.Lib.trimPrefix
   rw [if_pos hp]
   rfl
  rw [htr] at hC
  obtain ⟨t, ht⟩ := ny (⟨(s.data.toList.drop 5).toArray⟩ : ByteArray)
  have htd : t.data.toList = s.data.toList.drop 5 := by rw [← ht]
  rw [ht] at hC
  unfold htp at hC
  have HC := Ho hC
  have HV := Ho (show vok s.data.toList = v3 t.data.toList by unfold vok; rw [hp, htd]; rfl)
  clear hC hp ht htd htr
  by_cases h3 : t.size = 3
  · have z3 : ((t.size : Int) == 3) = true := by rw [h3]; rfl
    have zz0 : (0 : Int) < (t.size : Int) := by omega
    have zz1 : (1 : Int) < (t.size : Int) := by omega
    have zz2 : (2 : Int) < (t.size : Int) := by omega
    have hx0 : 0 < t.size := by omega
    have hx1 : 1 < t.size := by omega
    have hx2 : 2 < t.size := by omega
    have HT : Hd (t.data.toList = [t[0]'hx0, t[1]'hx1, t[2]'hx2]) := Ho (three h3)
    clear h3
    obtain ⟨x0, g0⟩ : ∃ x, t[0]'hx0 = x := ⟨_, rfl⟩
    obtain ⟨x1, g1⟩ : ∃ x, t[1]'hx1 = x := ⟨_, rfl⟩
    obtain ⟨x2, g2⟩ : ∃ x, t[2]'hx2 = x := ⟨_, rfl⟩
    rw [g0, g1, g2] at HT
    have D0 := Ho (isDigit_walk x0 w)
    have D2 := Ho (isDigit_walk x2 w)
    have h46 : ((x1.toNat : Int) == 46) = (x1 == 46) := u8_eq (a := x1) (b := 46)
    have HR := Ho (show v3 t.data.toList = (isD x0 && x1 == 46 && isD x2) by rw [HT.o]; rfl)
    cases d0 : isD x0 with
    | false =>
     rw [d0] at D0 HR
     have HE := Ho (HV.o.trans HR.o)
     clear h46
     go_enter Tryz.func104, Tryz.ntmps104
     go_wp2_with fail
     refine HC.o.mono ?_
     rintro e w9 ⟨rfl, h9⟩
     obtain rfl := h9.symm
     clear h9
     dsimp only
     go_wp2_with fail
     refine D0.o.mono ?_
     rintro e w9 ⟨rfl, h9⟩
     obtain rfl := h9.symm
     clear h9
     dsimp only
     go_wp2
     go_ret
     rw [HE.o]
     exact ⟨rfl, rfl⟩
    | true =>
     rw [d0] at D0 HR
     cases d1 : (x1 == 46) with
     | false =>
      rw [d1] at HR h46
      have HE := Ho (HV.o.trans HR.o)
      clear d1
      go_enter Tryz.func104, Tryz.ntmps104
      go_wp2_with fail
      refine HC.o.mono ?_
      rintro e w9 ⟨rfl, h9⟩
      obtain rfl := h9.symm
      clear h9
      dsimp only
      go_wp2_with fail
      refine D0.o.mono ?_
      rintro e w9 ⟨rfl, h9⟩
      obtain rfl := h9.symm
      clear h9
      dsimp only
      go_wp2
      go_ret
      rw [HE.o]
      exact ⟨rfl, rfl⟩
     | true =>
      rw [d1] at HR h46
      have HE := Ho (show vok s.data.toList = isD x2 by rw [HV.o, HR.o]; simp)
      clear d1
      go_enter Tryz.func104, Tryz.ntmps104
      go_wp2_with fail
      refine HC.o.mono ?_
      rintro e w9 ⟨rfl, h9⟩
      obtain rfl := h9.symm
      clear h9
      dsimp only
      go_wp2_with fail
      refine D0.o.mono ?_
      rintro e w9 ⟨rfl, h9⟩
      obtain rfl := h9.symm
      clear h9
      dsimp only
      go_wp2_with fail
      refine D2.o.mono ?_
      rintro e w9 ⟨rfl, h9⟩
      obtain rfl := h9.symm
      clear h9
      dsimp only
      go_wp2
      go_ret
      rw [HE.o]
      exact ⟨rfl, rfl⟩
  · have z3 : ((t.size : Int) == 3) = false := by rw [beq_eq_false_iff_ne]; omega
    have HE := Ho (show vok s.data.toList = false by rw [HV.o]; exact v3_no (by rw [← Go.Lib.size_eq]; exact h3))
    go_enter Tryz.func104, Tryz.ntmps104
    go_wp2_with fail
    refine HC.o.mono ?_
    rintro e w9 ⟨rfl, h9⟩
    obtain rfl := h9.symm
    clear h9
    dsimp only
    go_wp2
    go_ret
    rw [HE.o]
    exact ⟨rfl, rfl⟩
end Go.Proofs.YtkaoalcffgnfeaaGreatDoor
