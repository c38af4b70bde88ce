import Derived.Test.YtkaoalcffgnfeaaGreatDoorYv
import Derived.Test.YtkaoalcffgnfeaaGreatDoorNy
import Derived.Test.YtkaoalcffgnfeaaGreatDoorSo
namespace Go.Proofs.YtkaoalcffgnfeaaGreatDoor
open Go.RowKit Go.Shelf TextNum
def bks : ByteArray := ⟨#[32, 9]⟩
def trm (l : List UInt8) : List UInt8 := Go.Lib.trimS l bks.data.toList
theorem bks_ascii : ∀ (j : Nat) b, bks.data.toList[j]? = some b → b.toNat < 128 := fun j b hj => by
 have h : ∀ b ∈ bks.data.toList, b.toNat < 128 := by decide +kernel
 exact h b (List.mem_of_getElem? hj)
theorem trm_len (l : List UInt8) : (trm l).length ≤ l.length := by
 unfold trm Go.Lib.trimS Go.Lib.trimLeftS Go.Lib.trimRightS
 refine Nat.le_trans (List.dropWhile_sublist _).length_le ?_
 rw [List.length_reverse]
 refine Nat.le_trans (List.dropWhile_sublist _).length_le ?_
 rw [List.length_reverse]
 exact Nat.le_refl _
theorem Tryz.zv116t (w : World) : (zeroValue (Tryz.lays160_ren.t 116)).run Tryz.prog w = .ok (.agg (Array.replicate 256 (.bool false))) w := by kernel_rfl
theorem Tryz.iv116t : (Tryz.prog.info? (Tryz.lays160_ren.t 116)).map (·.size) = some 256 := by kernel_rfl
set_option maxRecDepth 100000 in
theorem trim_walk (s : ByteArray) (hs : s.size ≤ 4611686018427387904) (w : World) : Calls Tryz.prog 84 #[.string s] w fun e w' => e = .returned (vs (trm s.data.toList)) ∧ Up w w' := by
 have HT := Ho (Any.strings_Trim_ascii Tryz.lays160 Tryz.zv116t Tryz.iv116t s bks w (by omega) (by decide +kernel) bks_ascii)
 unfold bks at HT
 go_enter Tryz.func84, Tryz.ntmps84
 go_wp2_with fail
 refine HT.o.mono ?_
 rintro e w2 ⟨rfl, h9⟩
 have HU2 := Ho (show Up w w2 from h9)
 clear h9
 dsimp only
 go_wp2
 go_ret
 exact ⟨rfl, HU2.o⟩
set_option maxRecDepth 100000 in
theorem mayBeField_walk (n v : ByteArray) (hn : n.size ≤ 1099511627776) (hv : v.size ≤ 1099511627776) (w : World) : Calls Tryz.prog 109 #[.agg #[.string n, .string v]] w fun e w' => e = .returned (.bool (tok n.data.toList && vlu v.data.toList)) ∧ Up w w' := by
 have HU0 := Ho ((Up.refl w).alloc (.cells #[.string n, .string v] 87))
 have HA := Ho (at_new w 87 [.string n, .string v])
 have HTk := Ho (isToken_walk n hn (w.alloc (.cells #[.string n, .string v] 87)))
 cases ht : tok n.data.toList with
 | false =>
  rw [ht] at HTk
  go_enter Tryz.func109, Tryz.ntmps109
  go_wp2_with fail
  refine HTk.o.mono ?_
  rintro e w2 ⟨rfl, h9⟩
  have HU2 := Ho (HU0.o.trans h9)
  clear h9
  dsimp only
  go_wp2
  go_ret
  exact ⟨rfl, HU2.o⟩
 | true =>
  rw [ht] at HTk
  have HVl := Ho (fun w2 => mayBeValue_walk v hv w2)
  go_enter Tryz.func109, Tryz.ntmps109
  go_wp2_with fail
  refine HTk.o.mono ?_
  rintro e w2 ⟨rfl, h9⟩
  have HU2 := Ho (HU0.o.trans h9)
  have c1 : w2.cell? ⟨w.heap.size, 1, none⟩ = some (.string v) := h9.cell (HA.o.cell (i := 1) rfl)
  clear h9
  dsimp only
  go_wp2_with fail
  refine (HVl.o w2).mono ?_
  rintro e w3 ⟨rfl, h9⟩
  have HU3 := Ho (HU2.o.trans h9)
  clear h9
  dsimp only
  go_wp2
  go_ret
  exact ⟨by first | rfl | simp, HU3.o⟩
end Go.Proofs.YtkaoalcffgnfeaaGreatDoor
