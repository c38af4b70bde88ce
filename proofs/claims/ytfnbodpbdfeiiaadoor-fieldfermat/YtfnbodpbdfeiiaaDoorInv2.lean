import Derived.Test.YtfnbodpbdfeiiaaDoorInv
namespace Go.Proofs.YtfnbodpbdfeiiaaDoor
open Go.RowKit Go.Shelf FieldNum

set_option maxHeartbeats 1000000 in
theorem Invert_any (x : Nat) (hx : x < M) (w : World) (hG : w.rangeAt 2 0 PW) :
    Calls Tryd.prog 17 #[bv x] w fun e w' => e = .returned (bv (inv x)) ∧ Grown w w' := by
  rw [bv]
  go_enter Tryd.func17, Tryd.ntmps17
  have hr : ∀ c : Array Value, ((w.alloc (.cells (bl x).toArray 22)).alloc (.cells c 22)).rangeAt w.heap.size 0 (bl x) := fun c => rangeAt_grown (rangeAt_alloc_new w 22 (bl x)) (Grown.alloc (Grown.refl _) _ _)
  have ht : ∀ c : Array Value, 32 ≤ c.size → ((w.alloc (.cells (bl x).toArray 22)).alloc (.cells c 22)).there (w.heap.size + 1) 0 32 := fun c hc => by
    have := there_alloc_new (w.alloc (.cells (bl x).toArray 22)) 22 c 32 hc
    rwa [show (w.alloc (.cells (bl x).toArray 22)).heap.size = w.heap.size + 1 by simp] at this
  go_wp2_with (with_reducible show wpList _ _ _ ({ dst := _, op := Op.load 22 _, type := _, pos := _, after := _, guard := _ } :: _) _ _; refine Shut.out ?_)
  show wpList _ _ _ _ _ _
  refine wpList_load32 rfl _ rfl _ rfl x (hr _) ?_
  simp only [Act.put, List.setIfInBounds_toArray, List.set_cons_zero, List.set_cons_succ]
  go_wp2_with fail
  refine Calls.mono (load_num x _) ?_
  rintro e w1 ⟨rfl, hg1⟩
  have hth1 := there_grown (ht _ (by simp)) hg1
  have hgw1 : Grown w w1 := grown_trans (by go_grown) hg1
  go_wp2_with fail
  refine Calls.mono (inverse_num x hx _ (rangeAt_grown hG hgw1)) ?_
  rintro e w2 ⟨⟨z, rfl, hz, hzp⟩, hg2⟩
  have hth2 := there_grown hth1 hg2
  have hgw2 := grown_trans hgw1 hg2
  go_wp2_with fail
  refine Calls.mono (bytes_num z hz _) ?_
  rintro e w3 ⟨rfl, hg3⟩
  have hth3 := there_grown hth2 hg3
  have hgw3 := grown_trans hgw2 hg3
  go_wp2_with (with_reducible show wpList _ _ _ ({ dst := _, op := Op.store 22 _ _, type := _, pos := _, after := _, guard := _ } :: _) _ _; refine Shut.out ?_)
  show wpList _ _ _ _ _ _
  refine wpList_store32 rfl _ _ rfl _ _ rfl rfl hth3 ?_
  simp only [Act.put]
  apply wpList_nil
  repeat go_step
  refine bodyPost_ret (result32 Tryd.results17 _ _ (w.heap.size + 1) _ ?hp (World.rangeAt_setCells_same _ _ _ _ (by rw [bl_length]; exact hth3))) ?hd ?_
  case hp => rfl
  case hd => rfl
  exact ⟨rfl, grown_setCells (by omega) _ _ hgw3⟩
end Go.Proofs.YtfnbodpbdfeiiaaDoor
