import Derived.Test.YtfnbodpbdfeiiaaDoorHalf
import Derived.Test.YtfnbodpbdfeiiaaDoorEng3
namespace Go.Proofs.YtfnbodpbdfeiiaaDoor
open Go.RowKit Go.Shelf FieldNum

theorem hp_lt (x : Nat) : hp x < M := mod_lt256 _

set_option maxRecDepth 100000 in
set_option maxHeartbeats 1000000 in
theorem leg0 (x : Nat) (hx : x < M) (h0 : Hid (hp x = 0)) (w : World) (hG : w.rangeAt 2 0 PW) :
    Calls Tryd.prog 14 #[bv x] w fun e w' => e = .returned (.int .i64 (leg x)) ∧ Grown w w' := by
  have hb := hp_lt x
  rw [bv]
  go_enter Tryd.func14, Tryd.ntmps14
  go_wp2_with (with_reducible show wpList _ _ _ ({ dst := _, op := Op.load 22 _, type := _, pos := _, after := _, guard := _ } :: _) _ _; refine Shut.out ?_)
  show wpList _ _ _ _ _ _
  obtain ⟨hE, hW⟩ := params1 w x
  generalize (w.alloc (Obj.cells (bl x).toArray 22)) = W0 at hE hW ⊢
  refine wpList_load32 rfl _ rfl _ rfl x (hE _ (.head _)) ?_
  simp only [Act.put, List.setIfInBounds_toArray, List.set_cons_zero, List.set_cons_succ]
  go_wp2_with fail
  refine Calls.mono (load_num x _) ?_
  rintro e w1 ⟨rfl, hg1⟩
  dsimp only
  go_step
  have hW1 := grown_trans hW hg1
  clear hE hW hg1
  go_wp2_with fail
  refine Calls.mono (halfPower_num x hx _ (rangeAt_grown hG hW1)) ?_
  rintro e w2 ⟨⟨z, rfl, hz, hzp⟩, hg2⟩
  have hzq := Hid.of hzp
  clear hzp
  dsimp only
  go_step
  have hW2 := grown_trans hW1 hg2
  clear hW1 hg2
  go_wp2_with fail
  refine Calls.mono (canonical_num z hz _) ?_
  rw [hzq.out]
  rintro e w3 ⟨rfl, hg3⟩
  dsimp only
  go_step
  have hW3 := grown_trans hW2 hg3
  clear hW2 hg3
  apply wpList_nil
  repeat ((fail_if_success (with_reducible show Code.wp _ (Code.region _ _ _) _ _ _)); go_step)
  apply wp_region_lit
  refine wpList_val (numV 0) rfl (by kernel_rfl) ?_
  simp only [Act.put, List.setIfInBounds_toArray, List.set_cons_zero, List.set_cons_succ]
  refine wpList_val (.bool true) rfl ((exec_eqlN rfl (hp x) 0 rfl rfl hb (by decide) _).trans (by rw [decide_eq_true h0.out])) ?_
  simp only [Act.put, List.setIfInBounds_toArray, List.set_cons_zero, List.set_cons_succ]
  refine wpList_val (.bool true) rfl rfl ?_
  simp only [Act.put, List.setIfInBounds_toArray, List.set_cons_zero, List.set_cons_succ]
  apply wpList_nil
  clear hG
  go_wp2
  go_ret
  refine ⟨?_, hW3⟩
  have hl : leg x = 0 := by unfold leg; rw [if_pos h0.out]
  rw [hl]; rfl

set_option maxRecDepth 100000 in
set_option maxHeartbeats 1000000 in
theorem leg1 (x : Nat) (hx : x < M) (h0 : Hid (¬ hp x = 0)) (h1 : Hid (hp x = 1)) (w : World) (hG : w.rangeAt 2 0 PW) (hO : w.rangeAt 0 0 (nl 1)) :
    Calls Tryd.prog 14 #[bv x] w fun e w' => e = .returned (.int .i64 (leg x)) ∧ Grown w w' := by
  have hb := hp_lt x
  rw [bv]
  go_enter Tryd.func14, Tryd.ntmps14
  go_wp2_with (with_reducible show wpList _ _ _ ({ dst := _, op := Op.load 22 _, type := _, pos := _, after := _, guard := _ } :: _) _ _; refine Shut.out ?_)
  show wpList _ _ _ _ _ _
  obtain ⟨hE, hW⟩ := params1 w x
  generalize (w.alloc (Obj.cells (bl x).toArray 22)) = W0 at hE hW ⊢
  refine wpList_load32 rfl _ rfl _ rfl x (hE _ (.head _)) ?_
  simp only [Act.put, List.setIfInBounds_toArray, List.set_cons_zero, List.set_cons_succ]
  go_wp2_with fail
  refine Calls.mono (load_num x _) ?_
  rintro e w1 ⟨rfl, hg1⟩
  dsimp only
  go_step
  have hW1 := grown_trans hW hg1
  clear hE hW hg1
  go_wp2_with fail
  refine Calls.mono (halfPower_num x hx _ (rangeAt_grown hG hW1)) ?_
  rintro e w2 ⟨⟨z, rfl, hz, hzp⟩, hg2⟩
  have hzq := Hid.of hzp
  clear hzp
  dsimp only
  go_step
  have hW2 := grown_trans hW1 hg2
  clear hW1 hg2
  go_wp2_with fail
  refine Calls.mono (canonical_num z hz _) ?_
  rw [hzq.out]
  rintro e w3 ⟨rfl, hg3⟩
  dsimp only
  go_step
  have hW3 := grown_trans hW2 hg3
  clear hW2 hg3
  apply wpList_nil
  repeat ((fail_if_success (with_reducible show Code.wp _ (Code.region _ _ _) _ _ _)); go_step)
  apply wp_region_lit
  refine wpList_val (numV 0) rfl (by kernel_rfl) ?_
  simp only [Act.put, List.setIfInBounds_toArray, List.set_cons_zero, List.set_cons_succ]
  refine wpList_val (.bool false) rfl ((exec_eqlN rfl (hp x) 0 rfl rfl hb (by decide) _).trans (by rw [decide_eq_false h0.out])) ?_
  simp only [Act.put, List.setIfInBounds_toArray, List.set_cons_zero, List.set_cons_succ]
  refine wpList_val (.bool false) rfl rfl ?_
  simp only [Act.put, List.setIfInBounds_toArray, List.set_cons_zero, List.set_cons_succ]
  apply wpList_nil
  repeat ((fail_if_success (with_reducible show Code.wp _ (Code.region _ _ _) _ _ _)); go_step)
  apply wp_region_lit
  refine wpList_load_mid rfl 38 _ rfl 0 0 rfl (nl 1) _ (rangeAt_grown hO hW3) Tryd.underlying38 rfl (by rw [nl_length]; exact infoN) ?_
  rw [← numV_nl]
  simp only [Act.put, List.setIfInBounds_toArray, List.set_cons_zero, List.set_cons_succ]
  refine wpList_val (.bool true) rfl ((exec_eqlN rfl (hp x) 1 rfl rfl hb (by decide) _).trans (by rw [decide_eq_true h1.out])) ?_
  simp only [Act.put, List.setIfInBounds_toArray, List.set_cons_zero, List.set_cons_succ]
  refine wpList_val (.bool true) rfl rfl ?_
  simp only [Act.put, List.setIfInBounds_toArray, List.set_cons_zero, List.set_cons_succ]
  apply wpList_nil
  clear hG hO
  go_wp2
  go_ret
  refine ⟨?_, hW3⟩
  have hl : leg x = 1 := by unfold leg; rw [if_neg h0.out, if_pos h1.out]
  rw [hl]; rfl

set_option maxRecDepth 100000 in
set_option maxHeartbeats 1000000 in
theorem leg2 (x : Nat) (hx : x < M) (h0 : Hid (¬ hp x = 0)) (h1 : Hid (¬ hp x = 1)) (w : World) (hG : w.rangeAt 2 0 PW) (hO : w.rangeAt 0 0 (nl 1)) :
    Calls Tryd.prog 14 #[bv x] w fun e w' => e = .returned (.int .i64 (leg x)) ∧ Grown w w' := by
  have hb := hp_lt x
  rw [bv]
  go_enter Tryd.func14, Tryd.ntmps14
  go_wp2_with (with_reducible show wpList _ _ _ ({ dst := _, op := Op.load 22 _, type := _, pos := _, after := _, guard := _ } :: _) _ _; refine Shut.out ?_)
  show wpList _ _ _ _ _ _
  obtain ⟨hE, hW⟩ := params1 w x
  generalize (w.alloc (Obj.cells (bl x).toArray 22)) = W0 at hE hW ⊢
  refine wpList_load32 rfl _ rfl _ rfl x (hE _ (.head _)) ?_
  simp only [Act.put, List.setIfInBounds_toArray, List.set_cons_zero, List.set_cons_succ]
  go_wp2_with fail
  refine Calls.mono (load_num x _) ?_
  rintro e w1 ⟨rfl, hg1⟩
  dsimp only
  go_step
  have hW1 := grown_trans hW hg1
  clear hE hW hg1
  go_wp2_with fail
  refine Calls.mono (halfPower_num x hx _ (rangeAt_grown hG hW1)) ?_
  rintro e w2 ⟨⟨z, rfl, hz, hzp⟩, hg2⟩
  have hzq := Hid.of hzp
  clear hzp
  dsimp only
  go_step
  have hW2 := grown_trans hW1 hg2
  clear hW1 hg2
  go_wp2_with fail
  refine Calls.mono (canonical_num z hz _) ?_
  rw [hzq.out]
  rintro e w3 ⟨rfl, hg3⟩
  dsimp only
  go_step
  have hW3 := grown_trans hW2 hg3
  clear hW2 hg3
  apply wpList_nil
  repeat ((fail_if_success (with_reducible show Code.wp _ (Code.region _ _ _) _ _ _)); go_step)
  apply wp_region_lit
  refine wpList_val (numV 0) rfl (by kernel_rfl) ?_
  simp only [Act.put, List.setIfInBounds_toArray, List.set_cons_zero, List.set_cons_succ]
  refine wpList_val (.bool false) rfl ((exec_eqlN rfl (hp x) 0 rfl rfl hb (by decide) _).trans (by rw [decide_eq_false h0.out])) ?_
  simp only [Act.put, List.setIfInBounds_toArray, List.set_cons_zero, List.set_cons_succ]
  refine wpList_val (.bool false) rfl rfl ?_
  simp only [Act.put, List.setIfInBounds_toArray, List.set_cons_zero, List.set_cons_succ]
  apply wpList_nil
  repeat ((fail_if_success (with_reducible show Code.wp _ (Code.region _ _ _) _ _ _)); go_step)
  apply wp_region_lit
  refine wpList_load_mid rfl 38 _ rfl 0 0 rfl (nl 1) _ (rangeAt_grown hO hW3) Tryd.underlying38 rfl (by rw [nl_length]; exact infoN) ?_
  rw [← numV_nl]
  simp only [Act.put, List.setIfInBounds_toArray, List.set_cons_zero, List.set_cons_succ]
  refine wpList_val (.bool false) rfl ((exec_eqlN rfl (hp x) 1 rfl rfl hb (by decide) _).trans (by rw [decide_eq_false h1.out])) ?_
  simp only [Act.put, List.setIfInBounds_toArray, List.set_cons_zero, List.set_cons_succ]
  refine wpList_val (.bool false) rfl rfl ?_
  simp only [Act.put, List.setIfInBounds_toArray, List.set_cons_zero, List.set_cons_succ]
  apply wpList_nil
  clear hG hO
  go_wp2
  go_ret
  refine ⟨?_, hW3⟩
  have hl : leg x = -1 := by unfold leg; rw [if_neg h0.out, if_neg h1.out]
  rw [hl]; rfl

theorem Legendre_any (x : Nat) (hx : x < M) (w : World) (hG : w.rangeAt 2 0 PW) (hO : w.rangeAt 0 0 (nl 1)) :
    Calls Tryd.prog 14 #[bv x] w fun e w' => e = .returned (.int .i64 (leg x)) ∧ Grown w w' := by
  by_cases h0 : hp x = 0
  · exact leg0 x hx h0 w hG
  · by_cases h1 : hp x = 1
    · exact leg1 x hx h0 h1 w hG hO
    · exact leg2 x hx h0 h1 w hG hO
end Go.Proofs.YtfnbodpbdfeiiaaDoor
