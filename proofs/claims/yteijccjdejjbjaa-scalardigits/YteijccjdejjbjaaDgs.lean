import Derived.Test.YteijccjdejjbjaaRr
import Derived.Test.YteijccjdejjbjaaForm
namespace Go.Proofs.Yteijccjdejjbjaa
open Go.RowKit Go.Shelf ScalarNum

set_option maxRecDepth 100000 in
set_option maxHeartbeats 1000000 in
theorem same_num (g1 g2 c2 k X : Nat) (w : World) (h1 : w.rangeAt g1 0 (dl k X 257)) (h2 : w.rangeAt g2 0 (dl k X 257)) :
    Calls Try.prog 10 #[.slice (some ⟨g1, 0, none⟩) 257 257, .slice (some ⟨g2, 0, none⟩) 257 c2] w fun e w' => e = .returned (.bool true) ∧ Grown w w' := by
  have H := Hid.of (And.intro h1 h2)
  clear h1 h2
  go_enter Try.func10, Try.ntmps10
  go_wp2
  go_loopw [5] (fun v5 wr => ∃ i n : Nat, v5 = .int .i64 (i : Int) ∧ i ≤ 257 ∧ wr = w.drewN n) (fun v5 _ => 257 - (intOf v5).toNat)
  case atStart => exact ⟨0, 0, rfl, by decide, rfl⟩
  case round =>
    obtain ⟨i, n, rfl, hi, rfl⟩ := hrel
    by_cases hlt : i < 257
    · have c1 : w.cell? ⟨g1, i, none⟩ = some (.int .i8 (dn k X i)) := by
        have := H.out.1 i _ (dl_get k X 257 i hlt); rwa [Nat.zero_add, if_pos hlt] at this
      have c3 : w.cell? ⟨g2, i, none⟩ = some (.int .i8 (dn k X i)) := by
        have := H.out.2 i _ (dl_get k X 257 i hlt); rwa [Nat.zero_add, if_pos hlt] at this
      generalize dn k X i = d at *
      have b1 : (i : Int) < 257 := Int.ofNat_lt.2 hlt
      go_wp2
      go_quiet (fail)
      go_wp2
      go_roundw
      case rel => exact ⟨i + 1, _, by go_num, by omega, rfl⟩
      case measure => simp [intOf]; omega
    · have hi7 : i = 257 := by omega
      subst hi7
      go_wp2
      go_ret
      exact ⟨rfl, Grown.refl w⟩

set_option maxRecDepth 100000 in
set_option maxHeartbeats 1000000 in
theorem same_nil (w : World) : Calls Try.prog 10 #[.slice none 0 0, .slice none 0 0] w fun e w' => e = .returned (.bool true) ∧ Grown w w' := by
  go_enter Try.func10, Try.ntmps10
  go_wp2
  go_loopw [5] (fun v5 wr => v5 = .int .i64 0 ∧ wr = w) (fun _ _ => 0)
  case atStart => exact ⟨rfl, rfl⟩
  case round =>
    obtain ⟨rfl, rfl⟩ := hrel
    go_wp2
    go_ret
    exact ⟨rfl, Grown.refl _⟩

set_option maxRecDepth 100000 in
set_option maxHeartbeats 1000000 in
theorem digits_walk (X : Nat) (z : Int) (hX : X < M) (w : World) : Calls Try.prog 5 #[yv 32 X, .int .i64 z] w fun e w' => e = .returned (.bool true) ∧ Grown w w' := by
  have h0 : (w.alloc (.cells (yl 32 X).toArray 22)).rangeAt w.heap.size 0 (yl 32 X) ∧ Grown w (w.alloc (.cells (yl 32 X).toArray 22)) := ⟨rangeAt_alloc_new w 22 (yl 32 X), Grown.alloc (Grown.refl _) _ _⟩
  rw [yv]
  go_enter Try.func5, Try.ntmps5
  go_wp2_with (with_reducible show wpList _ _ _ ({ dst := _, op := Op.load 22 _, type := _, pos := _, after := _, guard := _ } :: _) _ _; refine Shut.out ?_)
  show wpList _ _ _ _ _ _
  generalize (w.alloc (.cells (yl 32 X).toArray 22)) = W0 at *
  have H0 := Hid.of h0
  clear h0
  refine wpList_load32 rfl _ rfl w.heap.size rfl X H0.out.1 ?_
  simp only [Act.put, List.setIfInBounds_toArray, List.set_cons_zero, List.set_cons_succ]
  go_wp2_with fail
  refine Calls.mono (Digits_num X 2 hX (by decide) (by decide) _) ?_
  rintro e w1 ⟨⟨v, rfl, g, rfl, hr⟩, g1⟩
  dsimp only
  have H1 := Hid.of (And.intro (rangeAt_grown H0.out.1 g1) (grown_trans H0.out.2 g1))
  clear H0 g1 hr
  go_wp2_with (with_reducible show wpList _ _ _ ({ dst := _, op := Op.load 22 _, type := _, pos := _, after := _, guard := _ } :: _) _ _; refine Shut.out ?_)
  show wpList _ _ _ _ _ _
  refine wpList_load32 rfl _ rfl w.heap.size rfl X H1.out.1 ?_
  simp only [Act.put, List.setIfInBounds_toArray, List.set_cons_zero, List.set_cons_succ]
  by_cases hz : z < 2 ∨ 8 < z
  · go_wp2_with fail
    refine Calls.mono (Digits_bad X z hz _) ?_
    rintro e w2 ⟨rfl, g2⟩
    dsimp only
    have H2 := Hid.of (And.intro (rangeAt_grown H1.out.1 g2) (grown_trans H1.out.2 g2))
    clear H1 g2
    go_wp2_with (with_reducible show wpList _ _ _ ({ dst := _, op := Op.load 22 _, type := _, pos := _, after := _, guard := _ } :: _) _ _; refine Shut.out ?_)
    show wpList _ _ _ _ _ _
    refine wpList_load32 rfl _ rfl w.heap.size rfl X H2.out.1 ?_
    simp only [Act.put, List.setIfInBounds_toArray, List.set_cons_zero, List.set_cons_succ]
    go_wp2_with fail
    refine Calls.mono (refDigits_bad X z hz _) ?_
    rintro e w3 ⟨rfl, g3⟩
    dsimp only
    have H3 := Hid.of (grown_trans H2.out.2 g3)
    clear H2 g3 hz
    go_wp2_with fail
    refine Calls.mono (same_nil _) ?_
    rintro e w4 ⟨rfl, g4⟩
    dsimp only
    go_wp2
    go_ret
    exact ⟨rfl, grown_trans H3.out g4⟩
  · obtain ⟨k, rfl⟩ : ∃ k : Nat, z = (k : Int) := ⟨z.toNat, by omega⟩
    have hk : 2 ≤ k := by omega
    have hk8 : k ≤ 8 := by omega
    clear hz
    go_wp2_with fail
    refine Calls.mono (Digits_num X k hX hk hk8 _) ?_
    rintro e w2 ⟨⟨v2, rfl, ga, rfl, hr2⟩, g2⟩
    dsimp only
    have H2 := Hid.of (And.intro (rangeAt_grown H1.out.1 g2) (And.intro (grown_trans H1.out.2 g2) hr2))
    clear H1 g2 hr2
    go_wp2_with (with_reducible show wpList _ _ _ ({ dst := _, op := Op.load 22 _, type := _, pos := _, after := _, guard := _ } :: _) _ _; refine Shut.out ?_)
    show wpList _ _ _ _ _ _
    refine wpList_load32 rfl _ rfl w.heap.size rfl X H2.out.1 ?_
    simp only [Act.put, List.setIfInBounds_toArray, List.set_cons_zero, List.set_cons_succ]
    go_wp2_with fail
    refine Calls.mono (refDigits_num X k hX hk hk8 _) ?_
    rintro e w3 ⟨⟨gb, cb, rfl, hr3⟩, g3⟩
    dsimp only
    have H3 := Hid.of (And.intro (rangeAt_grown H2.out.2.2 g3) (And.intro hr3 (grown_trans H2.out.2.1 g3)))
    clear H2 g3 hr3
    go_wp2_with fail
    refine Calls.mono (same_num ga gb cb k X _ H3.out.1 H3.out.2.1) ?_
    rintro e w4 ⟨rfl, g4⟩
    dsimp only
    go_wp2
    go_ret
    exact ⟨rfl, grown_trans H3.out.2.2 g4⟩
end Go.Proofs.Yteijccjdejjbjaa
