import Derived.Test.YteijccjdejjbjaaDoorRv
import Derived.Test.YteijccjdejjbjaaDoorHn
import Derived.Test.YteijccjdejjbjaaDoorVl
import Derived.Test.YteijccjdejjbjaaDoorEng
namespace Go.Proofs.YteijccjdejjbjaaDoor
open Go.RowKit Go.Shelf ScalarNum

theorem vf_one : vf (down 1 (fun _ => ⟨1, by decide⟩) 1) = 1 := by decide +kernel

set_option maxRecDepth 100000 in
set_option maxHeartbeats 600000 in
theorem values_walk (a : Option Addr) (len cap n : Nat) (E : Int) (hn : n < M) (w : World) (hT : Tab w)
    (hR : Calls Tryd.prog 24 #[.slice a len cap] w fun e w' => e = .returned (.tuple #[yv 32 n, .int .i64 E]) ∧ Grown w w')
    (hV : ∀ w', Lain w w' → Calls Tryd.prog 21 #[.slice a len cap] w' fun e w'' => e = .returned (.tuple #[yv 32 n, .int .i64 E]) ∧ Lain w' w'') :
    Calls Tryd.prog 7 #[.slice a len cap] w fun e w' => e = .returned (.bool true) ∧ Lain w w' := by
  have HV := Hid.of hV
  have HR := Hid.of hR
  have HT := Hid.of hT
  clear hV hR hT
  go_enter Tryd.func7, Tryd.ntmps7
  go_wp2_with fail
  refine Calls.mono HR.out ?_
  rintro e w1 ⟨rfl, g1⟩
  dsimp only
  have H1 := Hid.of (Lain.of g1)
  clear g1 HR
  go_wp2_with (with_reducible show wpList _ _ _ ({ dst := _, op := Op.store 23 _ _, type := _, pos := _, after := _, guard := _ } :: _) _ _; refine Shut.out ?_)
  show wpList _ _ _ _ _ _
  refine wpList_store_new n (by simp) rfl rfl rfl rfl (fun w2 hg2 hr2 _ => ?_)
  simp only [Act.put]
  generalize w1.heap.size = s1 at *
  have H2 := Hid.of (And.intro (H1.out.trans (Lain.of hg2)) hr2)
  clear H1 hg2 hr2
  refine wpList_val (.int .i64 E) rfl (by first | rfl | (go_simp; done)) ?_
  simp only [Act.put, List.setIfInBounds_toArray, List.set_cons_zero, List.set_cons_succ]
  apply wpList_nil
  go_wp2_with fail
  refine Calls.mono (HV.out _ H2.out.1) ?_
  rintro e w3 ⟨rfl, g3⟩
  dsimp only
  have H3 := Hid.of g3
  clear g3 HV
  go_wp2_with (with_reducible show wpList _ _ _ ({ dst := _, op := Op.store 23 _ _, type := _, pos := _, after := _, guard := _ } :: _) _ _; refine Shut.out ?_)
  show wpList _ _ _ _ _ _
  refine wpList_store_new n (by simp) rfl rfl rfl rfl (fun w4 hg4 hr4 _ => ?_)
  simp only [Act.put]
  generalize w3.heap.size = s2 at *
  have H4 := Hid.of (And.intro (H2.out.1.trans (H3.out.trans (Lain.of hg4))) (And.intro ((H3.out.trans (Lain.of hg4)).range H2.out.2) hr4))
  clear H2 H3 hg4 hr4
  refine wpList_val (.int .i64 E) rfl (by first | rfl | (go_simp; done)) ?_
  simp only [Act.put, List.setIfInBounds_toArray, List.set_cons_zero, List.set_cons_succ]
  apply wpList_nil
  go_wp2_with fail
  have g5 : Grown w4 (w4.alloc (.cells #[Value.int IntKind.i8 1] 40)) := Grown.alloc (Grown.refl _) _ _
  have c5 : (w4.alloc (.cells #[Value.int IntKind.i8 1] 40)).cell? ⟨w4.heap.size, 0, none⟩ = some (.int .i8 1) := (Boxed.new w4 40 (.int .i8 1)).cell
  have hs5 : (w4.alloc (.cells #[Value.int IntKind.i8 1] 40)).heap.size = w4.heap.size + 1 := by simp
  generalize (w4.alloc (.cells #[Value.int IntKind.i8 1] 40)) = w5 at *
  have hD : DigS w5.heap.size w5 (.slice (some ⟨w4.heap.size, 0, none⟩) 1 1) 1 (fun _ => ⟨1, by decide⟩) :=
    .inr ⟨w4.heap.size, 0, 1, rfl, by omega, fun j hj => by
      obtain rfl : j = 0 := by omega
      exact c5⟩
  refine Calls.mono (Value_num _ 1 1 _ (by decide) w5 (HT.out.lain (H4.out.1.trans (Lain.of g5))) hD) ?_
  rintro e w6 ⟨rfl, g6⟩
  dsimp only
  rw [vf_one]
  have H6 := Hid.of ((Lain.of g5).trans g6)
  clear g5 g6 hD c5 hs5
  go_wp2_with (with_reducible show wpList _ _ _ ({ dst := _, op := Op.store 23 _ _, type := _, pos := _, after := _, guard := _ } :: _) _ _; refine Shut.out ?_)
  show wpList _ _ _ _ _ _
  refine wpList_store_new 1 (by simp) rfl rfl rfl rfl (fun w7 hg7 hr7 _ => ?_)
  simp only [Act.put]
  generalize w6.heap.size = s3 at *
  have c7 : w7.cell? ⟨s3, 0, none⟩ = some (.int .u8 1) := hr7 0 _ (yl_get 32 1 0 (by decide))
  have H7 := Hid.of (And.intro (H4.out.1.trans (H6.out.trans (Lain.of hg7))) (And.intro ((H6.out.trans (Lain.of hg7)).range H4.out.2.1) ((H6.out.trans (Lain.of hg7)).range H4.out.2.2)))
  clear H4 H6 hg7 hr7
  refine wpList_val (.int .i64 0) rfl (by first | rfl | (go_simp; done)) ?_
  simp only [Act.put, List.setIfInBounds_toArray, List.set_cons_zero, List.set_cons_succ]
  apply wpList_nil
  go_wp2_with (with_reducible show wpList _ _ _ ({ dst := _, op := Op.load 23 _, type := _, pos := _, after := _, guard := _ } :: _) _ _; refine Shut.out ?_)
  show wpList _ _ _ _ _ _
  refine wpList_load32 rfl _ rfl s2 rfl n H7.out.2.2 ?_
  simp only [Act.put, List.setIfInBounds_toArray, List.set_cons_zero, List.set_cons_succ]
  refine wpList_load32 rfl _ rfl s1 rfl n H7.out.2.1 ?_
  simp only [Act.put, List.setIfInBounds_toArray, List.set_cons_zero, List.set_cons_succ]
  refine wpList_val (.bool true) rfl (exec_eql_same rfl n n rfl rfl hn hn rfl _) ?_
  simp only [Act.put, List.setIfInBounds_toArray, List.set_cons_zero, List.set_cons_succ]
  go_wp2
  go_ret
  exact ⟨rfl, H7.out.1⟩
end Go.Proofs.YteijccjdejjbjaaDoor
