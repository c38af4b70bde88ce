import Derived.Test.YteijccjdejjbjaaDoorVa
namespace Go.Proofs.YteijccjdejjbjaaDoor
open Go.RowKit Go.Shelf ScalarNum

set_option maxRecDepth 100000 in
set_option maxHeartbeats 400000 in
theorem Value_long (a : Option Addr) (len cap : Nat) (hlen : 300 < len) (w : World) :
    Calls Tryd.prog 21 #[.slice a len cap] w fun e w' => e = .returned (.tuple #[yv 32 0, .int .i64 2]) ∧ Lain w w' := by
  have h0 := alloc1 w 23 (yl 32 0).toArray
  rw [show (yl 32 0).toArray.size = 32 from rfl] at h0
  have b1 : (300 : Int) < (len : Int) := by omega
  go_enter Tryd.func21, Tryd.ntmps21
  go_wp2_with (with_reducible show wpList _ _ _ ({ dst := _, op := Op.build 23 _, type := _, pos := _, after := _, guard := _ } :: _) _ _; refine Shut.out ?_)
  show wpList _ _ _ _ _ _
  rw [← yl32_zero]
  generalize (w.alloc (.cells (yl 32 0).toArray 23)) = W0 at *
  have H0 := Hid.of (And.intro h0 (Lain.of h0.2))
  clear h0 b1
  refine wpList_val (yv 32 0) rfl (by kernel_rfl) ?_
  simp only [Act.put, List.setIfInBounds_toArray, List.set_cons_zero, List.set_cons_succ]
  refine wpList_store32 rfl _ _ rfl (w.heap.size) 0 rfl rfl H0.out.1.1 ?_
  simp only [Act.put]
  refine wpList_val (.int .i64 2) rfl (by kernel_rfl) ?_
  simp only [Act.put, List.setIfInBounds_toArray, List.set_cons_zero, List.set_cons_succ]
  apply wpList_nil
  repeat go_step
  refine bodyPost_ret (v := .tuple #[yv 32 0, .int .i64 2]) (result32t resValue _ _ (w.heap.size) _ _ ?hp ?hv (World.rangeAt_setCells_same _ _ _ _ (by rw [yl_length]; exact H0.out.1.1))) ?hd ?_
  case hp => rfl
  case hv => rfl
  case hd => rfl
  exact ⟨rfl, H0.out.2.set (Nat.le_refl _) _⟩
end Go.Proofs.YteijccjdejjbjaaDoor
