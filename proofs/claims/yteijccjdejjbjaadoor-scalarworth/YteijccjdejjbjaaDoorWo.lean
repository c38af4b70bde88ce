import Derived.Test.YteijccjdejjbjaaDoorVa
import Derived.Test.YteijccjdejjbjaaDoorDt
import Derived.Test.YteijccjdejjbjaaDoorCu
import Derived.Test.YteijccjdejjbjaaDoorEng
namespace Go.Proofs.YteijccjdejjbjaaDoor
open Go.RowKit Go.Shelf ScalarNum

def df (k X : Nat) (hk : 2 ≤ k) (hk8 : k ≤ 8) (j : Nat) : I8 := ⟨dn k X j, dn_i8 hk hk8⟩
theorem horner {L v m : Nat} {N N' d : Int} (hm : (m : Int) = d % (L : Int)) (hv : (v : Int) = N' % (L : Int)) (hN : N = d + 2 * N') : (((2 * v + m) % L : Nat) : Int) = N % (L : Int) := by
  rw [Int.natCast_emod, Int.natCast_add, Int.natCast_mul, hm, hv, hN, Int.add_emod (_ * _), Int.emod_emod, Int.mul_emod, Int.emod_emod, ← Int.mul_emod, ← Int.add_emod, Int.add_comm]
  rfl
theorem vf_nn (k X : Nat) (hk : 2 ≤ k) (hk8 : k ≤ 8) (hX : X < 2 ^ 256) : ∀ j, j ≤ 257 → ((vf (down 257 (df k X hk hk8) j) : Nat) : Int) = ((nn k X (257 - j) : Nat) : Int) % (L : Int)
  | 0, _ => by rw [Nat.sub_zero, nn_end hk hX]; exact (Int.zero_emod _).symm
  | j + 1, h => by
    have ih := vf_nn k X hk hk8 hX j (by omega)
    rw [down_succ, vf_snoc]
    have hs := nn_step k X (257 - (j + 1)) (by omega)
    rw [show 257 - (j + 1) + 1 = 257 - j from by omega] at hs
    have hi : 257 - 1 - j = 257 - (j + 1) := by omega
    rw [hi]
    exact horner (md_cast _) ih hs
theorem vf_digits (k X : Nat) (hk : 2 ≤ k) (hk8 : k ≤ 8) (hX : X < M) : vf (down 257 (df k X hk hk8) 257) = sred X := by
  have h := vf_nn k X hk hk8 (by rw [← M_256]; exact hX) 257 (by omega)
  rw [Nat.sub_self, show nn k X 0 = X from rfl, ← Int.natCast_emod] at h
  exact Int.ofNat.inj h
theorem digS_of {k X : Nat} {g : Nat} {w : World} (hk : 2 ≤ k) (hk8 : k ≤ 8) (h : w.rangeAt g 0 (dl k X 257)) : DigS w.heap.size w (.slice (some ⟨g, 0, none⟩) 257 257) 257 (df k X hk hk8) := by
  have hc : ∀ j, j < 257 → w.cell? ⟨g, 0 + j, none⟩ = some (.int .i8 (dn k X j)) := fun j hj => by
    have := h j _ (dl_get k X 257 j hj); rwa [if_pos hj] at this
  exact .inr ⟨g, 0, 257, rfl, block_lt_of_cell (hc 0 (by decide)), hc⟩
theorem t7 (z : Int) : -6 ≤ z.tmod 7 ∧ z.tmod 7 ≤ 6 ∧ (0 ≤ z → 0 ≤ z.tmod 7) := by
  by_cases h : 0 ≤ z
  · rw [Int.tmod_eq_emod_of_nonneg h]; omega
  · obtain ⟨y, rfl⟩ : ∃ y, z = -y := ⟨-z, by omega⟩
    rw [Int.neg_tmod, Int.tmod_eq_emod_of_nonneg (by omega)]; omega
theorem width (z : Int) : ∃ k : Nat, 2 + (z.tmod 7 + 7).tmod 7 = (k : Int) ∧ 2 ≤ k ∧ k ≤ 8 ∧ -6 ≤ z.tmod 7 ∧ z.tmod 7 ≤ 6 ∧ 0 ≤ (z.tmod 7 + 7).tmod 7 ∧ (z.tmod 7 + 7).tmod 7 ≤ 6 := by
  have h1 : -6 ≤ z.tmod 7 ∧ z.tmod 7 ≤ 6 := ⟨(t7 z).1, (t7 z).2.1⟩
  have h2 : 0 ≤ (z.tmod 7 + 7).tmod 7 ∧ (z.tmod 7 + 7).tmod 7 ≤ 6 := ⟨(t7 _).2.2 (by omega), (t7 _).2.1⟩
  exact ⟨(2 + (z.tmod 7 + 7).tmod 7).toNat, by omega, by omega, by omega, h1.1, h1.2, h2.1, h2.2⟩

set_option maxRecDepth 100000 in
set_option maxHeartbeats 600000 in
theorem worth_walk (X : Nat) (z : Int) (hX : X < M) (w : World) (hT : Tab w) : Calls Tryd.prog 9 #[yv 32 X, .int .i64 z] w fun e w' => e = .returned (.bool true) ∧ Lain w w' := by
  have h0 : (w.alloc (.cells (yl 32 X).toArray 23)).rangeAt w.heap.size 0 (yl 32 X) ∧ Grown w (w.alloc (.cells (yl 32 X).toArray 23)) := ⟨rangeAt_alloc_new w 23 (yl 32 X), Grown.alloc (Grown.refl _) _ _⟩
  have HT := Hid.of hT
  clear hT
  obtain ⟨k, hk, hk2, hk8, b1, b2, b3, b4⟩ := width z
  have e1 : IntKind.i64.wrap (z.tmod 7 + 7) = z.tmod 7 + 7 := by rw [IntKind.wrap_i64]; omega
  have e2 : IntKind.i64.wrap (2 + (z.tmod 7 + 7).tmod 7) = (k : Int) := by rw [← hk, IntKind.wrap_i64]; omega
  have e3 : IntKind.i64.wrap (z.tmod 7) = z.tmod 7 := by rw [IntKind.wrap_i64]; omega
  have e4 : IntKind.i64.wrap ((z.tmod 7 + 7).tmod 7) = (z.tmod 7 + 7).tmod 7 := by rw [IntKind.wrap_i64]; omega
  have e5 : wrap64 (k : Int) = (k : Int) := by unfold wrap64; omega
  clear b1 b2 b3 b4
  have HK := Hid.of (And.intro hk2 hk8)
  clear hk2 hk8
  rw [yv]
  go_enter Tryd.func9, Tryd.ntmps9
  go_wp2_with (with_reducible show wpList _ _ _ ({ dst := _, op := Op.load 23 _, type := _, pos := _, after := _, guard := _ } :: _) _ _; refine Shut.out ?_)
  show wpList _ _ _ _ _ _
  generalize (w.alloc (.cells (yl 32 X).toArray 23)) = W0 at *
  have H0 := Hid.of h0
  clear h0
  refine wpList_load32 rfl _ rfl w.heap.size rfl X H0.out.1 ?_
  simp only [Act.put, List.setIfInBounds_toArray, List.set_cons_zero, List.set_cons_succ]
  go_wp2_with fail
  refine Calls.mono (Digits_num X k hX HK.out.1 HK.out.2 _) ?_
  rintro e w1 ⟨⟨v, rfl, g, rfl, hr⟩, g1⟩
  dsimp only
  clear hk e1 e2 e3 e4 e5
  have H1 := Hid.of (And.intro (rangeAt_grown H0.out.1 g1) (And.intro hr (Lain.of (grown_trans H0.out.2 g1))))
  clear H0 g1 hr
  go_wp2_with fail
  refine Calls.mono (Value_num (some ⟨g, 0, none⟩) 257 257 (df k X HK.out.1 HK.out.2) (by decide) _ (HT.out.lain H1.out.2.2) (digS_of HK.out.1 HK.out.2 H1.out.2.1)) ?_
  rintro e w2 ⟨rfl, g2⟩
  dsimp only
  rw [vf_digits k X HK.out.1 HK.out.2 hX]
  have H2 := Hid.of (And.intro (g2.range H1.out.1) (H1.out.2.2.trans g2))
  clear H1 g2
  go_wp2_with (with_reducible show wpList _ _ _ ({ dst := _, op := Op.store 23 _ _, type := _, pos := _, after := _, guard := _ } :: _) _ _; refine Shut.out ?_)
  show wpList _ _ _ _ _ _
  refine wpList_store_new (sred X) (by simp) rfl rfl rfl rfl (fun w3 hg3 hr3 _ => ?_)
  simp only [Act.put]
  have H3 := Hid.of (And.intro (rangeAt_grown H2.out.1 hg3) (And.intro hr3 (H2.out.2.trans (Lain.of hg3))))
  clear H2 hg3 hr3
  generalize w2.heap.size = b3 at *
  refine wpList_val (.int .i64 0) rfl (by kernel_rfl) ?_
  simp only [Act.put, List.setIfInBounds_toArray, List.set_cons_zero, List.set_cons_succ]
  apply wpList_nil
  repeat ((fail_if_success (with_reducible show Code.wp _ (Code.region _ _ _) _ _ _)); go_step)
  refine wp_region_noPanic ?_
  refine wp_region_held_drew (S := fun w' => w'.rangeAt w.heap.size 0 (yl 32 X) ∧ w'.rangeAt b3 0 (yl 32 (sred X)) ∧ Lain w w') (by kernel_rfl) H3.out (fun hH => ?_)
  clear H3
  refine takeV 0 (.int .i64 0) rfl (by kernel_rfl) (by kernel_rfl) (by kernel_rfl) (fun _ _ _ h => h) (by rfl) (fun w _ => by first | rfl | (go_simp; done)) hH ?_
  simp only [Act.put, List.setIfInBounds_toArray, List.set_cons_zero, List.set_cons_succ]
  refine takeV 1 (.bool true) rfl (by kernel_rfl) (by kernel_rfl) (by kernel_rfl) (fun _ _ _ h => h) (by rfl) (fun w _ => by first | rfl | (go_simp; done)) hH ?_
  simp only [Act.put, List.setIfInBounds_toArray, List.set_cons_zero, List.set_cons_succ]
  refine takeV 2 (.bool true) rfl (by kernel_rfl) (by kernel_rfl) (by kernel_rfl) (fun _ _ _ h => h) (by rfl) (fun w _ => by first | rfl | (go_simp; done)) hH ?_
  simp only [Act.put, List.setIfInBounds_toArray, List.set_cons_zero, List.set_cons_succ]
  refine takeV 3 (.int .i64 0) rfl (by kernel_rfl) (by kernel_rfl) (by kernel_rfl) (fun _ _ _ h => h) (by rfl) (fun w _ => by first | rfl | (go_simp; done)) hH ?_
  simp only [Act.put, List.setIfInBounds_toArray, List.set_cons_zero, List.set_cons_succ]
  refine takeV 4 (.bool true) rfl (by kernel_rfl) (by kernel_rfl) (by kernel_rfl) (fun _ _ _ h => h) (by rfl) (fun w _ => by first | rfl | (go_simp; done)) hH ?_
  simp only [Act.put, List.setIfInBounds_toArray, List.set_cons_zero, List.set_cons_succ]
  refine takeV 5 (.bool true) rfl (by kernel_rfl) (by kernel_rfl) (by kernel_rfl) (fun _ _ _ h => h) (by rfl) (fun w _ => by first | rfl | (go_simp; done)) hH ?_
  simp only [Act.put, List.setIfInBounds_toArray, List.set_cons_zero, List.set_cons_succ]
  refine takeV 6 (.bool true) rfl (by kernel_rfl) (by kernel_rfl) (by kernel_rfl) (fun _ _ _ h => h) (by rfl) (fun w _ => by first | rfl | (go_simp; done)) hH ?_
  simp only [Act.put, List.setIfInBounds_toArray, List.set_cons_zero, List.set_cons_succ]
  refine takeV 7 (.slice (some ⟨g, 0, none⟩) 257 257) rfl (by kernel_rfl) (by kernel_rfl) (by kernel_rfl) (fun _ _ _ h => h) (by rfl) (fun w _ => by first | rfl | (go_simp; done)) hH ?_
  simp only [Act.put, List.setIfInBounds_toArray, List.set_cons_zero, List.set_cons_succ]
  refine takeV 8 (.int .i64 257) rfl (by kernel_rfl) (by kernel_rfl) (by kernel_rfl) (fun _ _ _ h => h) (by rfl) (fun w _ => by first | rfl | (go_simp; done)) hH ?_
  simp only [Act.put, List.setIfInBounds_toArray, List.set_cons_zero, List.set_cons_succ]
  refine takeV 9 (.bool true) rfl (by kernel_rfl) (by kernel_rfl) (by kernel_rfl) (fun _ _ _ h => h) (by rfl) (fun w _ => by first | rfl | (go_simp; done)) hH ?_
  simp only [Act.put, List.setIfInBounds_toArray, List.set_cons_zero, List.set_cons_succ]
  refine takeV 10 (.bool true) rfl (by kernel_rfl) (by kernel_rfl) (by kernel_rfl) (fun _ _ _ h => h) (by rfl) (fun w _ => by first | rfl | (go_simp; done)) hH ?_
  simp only [Act.put, List.setIfInBounds_toArray, List.set_cons_zero, List.set_cons_succ]
  refine takeV 11 (.bool true) rfl (by kernel_rfl) (by kernel_rfl) (by kernel_rfl) (fun _ _ _ h => h) (by rfl) (fun w _ => by first | rfl | (go_simp; done)) hH ?_
  simp only [Act.put, List.setIfInBounds_toArray, List.set_cons_zero, List.set_cons_succ]
  refine take32 12 (sred X) (b3) rfl (by kernel_rfl) (by kernel_rfl) (by kernel_rfl) (fun _ _ _ h => h) (by rfl) rfl rfl (fun _ h => h.2.1) hH ?_
  simp only [Act.put, List.setIfInBounds_toArray, List.set_cons_zero, List.set_cons_succ]
  refine take32 13 (X) (w.heap.size) rfl (by kernel_rfl) (by kernel_rfl) (by kernel_rfl) (fun _ _ _ h => h) (by rfl) rfl rfl (fun _ h => h.1) hH ?_
  simp only [Act.put, List.setIfInBounds_toArray, List.set_cons_zero, List.set_cons_succ]
  refine step1 14 (by kernel_rfl) rfl (fun K hK => ?_)
  rw [if_pos (by rfl)]
  go_simp
  refine Calls.mono (cut_num X hX _ (HT.out.lain hH.2.2)) ?_
  rintro e w4 ⟨rfl, hg4⟩
  dsimp only
  refine hK.out _ _ ⟨rangeAt_grown hH.1 hg4, rangeAt_grown hH.2.1 hg4, hH.2.2.trans (Lain.of hg4)⟩ (fun hH => ?_)
  clear hK K
  refine takeV 15 (.bool true) rfl (by kernel_rfl) (by kernel_rfl) (by kernel_rfl) (fun _ _ _ h => h) (by rfl) (fun w _ => exec_eql_same rfl (sred X) (sred X) rfl rfl (sred_lt X) (sred_lt X) rfl w) hH ?_
  simp only [Act.put, List.setIfInBounds_toArray, List.set_cons_zero, List.set_cons_succ]
  refine takeV 16 (.bool true) rfl (by kernel_rfl) (by kernel_rfl) (by kernel_rfl) (fun _ _ _ h => h) (by rfl) (fun w _ => by first | rfl | (go_simp; done)) hH ?_
  simp only [Act.put, List.setIfInBounds_toArray, List.set_cons_zero, List.set_cons_succ]
  refine takeV 17 (.bool true) rfl (by kernel_rfl) (by kernel_rfl) (by kernel_rfl) (fun _ _ _ h => h) (by rfl) (fun w _ => by first | rfl | (go_simp; done)) hH ?_
  simp only [Act.put, List.setIfInBounds_toArray, List.set_cons_zero, List.set_cons_succ]
  refine wpAnyH_done (by kernel_rfl) ?_ _
  refine NoPanic.normal ?_
  repeat go_step
  go_ret
  exact ⟨rfl, hH.2.2⟩
end Go.Proofs.YteijccjdejjbjaaDoor
