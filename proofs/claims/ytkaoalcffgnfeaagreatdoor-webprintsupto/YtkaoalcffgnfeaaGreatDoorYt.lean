import Derived.Test.YtkaoalcffgnfeaaGreatDoorYs
import Derived.Test.YtkaoalcffgnfeaaGreatDoorSn
namespace Go.Proofs.YtkaoalcffgnfeaaGreatDoor
open Go.RowKit Go.Shelf TextNum
def nih : ByteArray := ⟨#[47, 63, 35, 64, 92]⟩
def hst (l : List UInt8) : Bool := l.isEmpty || (tgt l && !Go.Lib.containsAny l nih.data.toList)
theorem tgt_ascii {l : List UInt8} (h : tgt l = true) : ∀ (j : Nat) b, l[j]? = some b → b.toNat < 128 := fun j b hj => by
 unfold tgt at h
 rw [Bool.and_eq_true] at h
 have := List.all_eq_true.1 h.2 b (List.mem_of_getElem? hj)
 unfold vis at this
 simp only [Bool.and_eq_true, decide_eq_true_eq] at this
 omega
theorem nih_ascii : ∀ (j : Nat) b, nih.data.toList[j]? = some b → b.toNat < 128 := fun j b hj => by
 have h : ∀ b ∈ nih.data.toList, b.toNat < 128 := by decide +kernel
 exact h b (List.mem_of_getElem? hj)
theorem Tryz.zv116 (w : World) : (zeroValue (Tryz.lays150_ren.t 116)).run Tryz.prog w = .ok (.agg (Array.replicate 256 (.bool false))) w := by kernel_rfl
theorem Tryz.iv116 : (Tryz.prog.info? (Tryz.lays150_ren.t 116)).map (·.size) = some 256 := by kernel_rfl
set_option maxRecDepth 100000 in
set_option maxHeartbeats 1000000 in
theorem mayBeHost_walk (s : ByteArray) (hs : s.size ≤ 1048576) (w : World) : Calls Tryz.prog 110 #[.string s] w fun e w' => e = .returned (.bool (hst s.data.toList)) ∧ Up w w' := by
 obtain ⟨L, hL⟩ := ny s.data.toList
 have HLL := Ho hL
 rw [hL]
 obtain ⟨rv, hrv⟩ := ny (hst L)
 have HR := Ho hrv
 rw [hrv]
 clear hrv hL
 unfold hst at HR
 have HTg := Ho (isTarget_walk s (by omega) w)
 rw [HLL.o] at HTg
 cases hb : s.toList.isEmpty with
 | true =>
  have HE := Ho (show rv = true by rw [← HR.o, ← HLL.o, ← Go.Lib.toList_data, hb]; rfl)
  go_enter Tryz.func110, Tryz.ntmps110
  go_wp2
  go_ret
  rw [HE.o]
  exact ⟨rfl, Up.refl w⟩
 | false =>
  have HR2 := Ho (show rv = (tgt L && !Go.Lib.containsAny L nih.data.toList) by rw [← HR.o, ← HLL.o, ← Go.Lib.toList_data, hb]; rfl)
  cases ht : tgt L with
  | false =>
   rw [ht] at HTg HR2
   have HE := Ho (show rv = false from HR2.o)
   go_enter Tryz.func110, Tryz.ntmps110
   go_wp2_with fail
   refine HTg.o.mono ?_
   rintro e w2 ⟨rfl, h9⟩
   have HU2 := Ho h9
   clear h9
   dsimp only
   go_wp2
   go_ret
   rw [HE.o]
   exact ⟨rfl, HU2.o⟩
  | true =>
   rw [ht] at HTg HR2
   have HCA := Ho (show ∀ w, Calls Tryz.prog 138 #[.string s, .string nih] w fun e w' => e = .returned (.bool (Go.Lib.containsAny L nih.data.toList)) ∧ Up w w' from fun w => by
    have h := Any.strings_ContainsAny Tryz.lays150 Tryz.zv116 Tryz.iv116 s nih w (by omega) (by decide +kernel) (by rw [HLL.o]; exact tgt_ascii ht) nih_ascii
    rw [HLL.o] at h
    exact h)
   generalize Go.Lib.containsAny L nih.data.toList = bb at *
   have HE := Ho (show rv = !bb from HR2.o)
   unfold nih at HCA
   go_enter Tryz.func110, Tryz.ntmps110
   go_wp2_with fail
   refine HTg.o.mono ?_
   rintro e w2 ⟨rfl, h9⟩
   have HU2 := Ho h9
   clear h9
   dsimp only
   go_wp2_with fail
   refine (HCA.o w2).mono ?_
   rintro e w3 ⟨rfl, h9⟩
   have HU3 := Ho (HU2.o.trans h9)
   clear h9
   dsimp only
   go_wp2
   go_ret
   rw [HE.o]
   exact ⟨rfl, HU3.o⟩
end Go.Proofs.YtkaoalcffgnfeaaGreatDoor
