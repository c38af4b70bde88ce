import Derived.Test.YteijccjdejjbjaaDoorDo
import Derived.Test.YteijccjdejjbjaaDoorFm0
import Derived.Test.YteijccjdejjbjaaDoorEng
namespace Go.Proofs.YteijccjdejjbjaaDoor
open Go.RowKit Go.Shelf ScalarNum

/-- a slice of 257 digits -/
def DS (k X : Nat) (v : Value) (w : World) : Prop := ∃ g, v = .slice (some ⟨g, 0, none⟩) 257 257 ∧ w.rangeAt g 0 (dl k X 257)
theorem DS.grown {k X : Nat} {v : Value} {w w' : World} (h : DS k X v w) (hg : Grown w w') : DS k X v w' := by
  obtain ⟨g, rfl, hr⟩ := h
  exact ⟨g, rfl, rangeAt_grown hr hg⟩

set_option maxRecDepth 100000 in
set_option maxHeartbeats 1000000 in
theorem Digits_bad (X : Nat) (z : Int) (hz : z < 2 ∨ 8 < z) (w : World) :
    Calls Tryd.prog 26 #[yv 32 X, .int .i64 z] w fun e w' => e = .returned (.tuple #[.slice none 0 0, .int .i64 1]) ∧ Grown w w' := by
  have h0 : Grown w (w.alloc (.cells (yl 32 X).toArray 23)) := Grown.alloc (Grown.refl _) _ _
  have H0 := Hid.of h0
  clear h0
  rw [yv]
  by_cases h : z < 2
  · clear hz
    go_enter Tryd.func26, Tryd.ntmps26
    go_wp2
    go_ret2
    exact ⟨rfl, H0.out⟩
  · have h2 : z > 8 := hz.resolve_left h
    clear hz
    go_enter Tryd.func26, Tryd.ntmps26
    go_wp2
    go_ret2
    exact ⟨rfl, H0.out⟩

set_option maxRecDepth 100000 in
set_option maxHeartbeats 1000000 in
theorem Digits_num (X k : Nat) (hX : X < M) (hk : 2 ≤ k) (hk8 : k ≤ 8) (w : World) :
    Calls Tryd.prog 26 #[yv 32 X, .int .i64 (k : Int)] w fun e w' => (∃ v, e = .returned (.tuple #[v, .int .i64 0]) ∧ DS k X v w') ∧ Grown w w' := by
  have h0 : (w.alloc (.cells (yl 32 X).toArray 23)).rangeAt w.heap.size 0 (yl 32 X) ∧ Grown w (w.alloc (.cells (yl 32 X).toArray 23)) := ⟨rangeAt_alloc_new w 23 (yl 32 X), Grown.alloc (Grown.refl _) _ _⟩
  have b1 : ¬ (k : Int) < 2 := by omega
  have b2 : ¬ (8 : Int) < (k : Int) := by omega
  rw [yv]
  go_enter Tryd.func26, Tryd.ntmps26
  go_wp2_with (with_reducible show wpList _ _ _ ({ dst := _, op := Op.load 23 _, type := _, pos := _, after := _, guard := _ } :: _) _ _; refine Shut.out ?_)
  show wpList _ _ _ _ _ _
  generalize (w.alloc (.cells (yl 32 X).toArray 23)) = W0 at *
  have H0 := Hid.of h0
  clear h0
  refine wpList_load32 rfl _ rfl w.heap.size rfl X H0.out.1 ?_
  simp only [Act.put, List.setIfInBounds_toArray, List.set_cons_zero, List.set_cons_succ]
  go_wp2_with fail
  refine Calls.mono (load_num X hX _) ?_
  rintro e w1 ⟨rfl, g1⟩
  dsimp only
  go_wp2_with fail
  refine Calls.mono (digitsOf_num X k hX hk hk8 _) ?_
  rintro e w2 ⟨⟨g, rfl, hg, hr, ht⟩, g2⟩
  dsimp only
  have H2 := Hid.of (And.intro hr (grown_trans H0.out.2 (grown_trans g1 g2)))
  clear hr ht hg g1 g2 H0
  go_wp2
  go_ret2
  exact ⟨⟨_, rfl, g, rfl, H2.out.1⟩, H2.out.2⟩

end Go.Proofs.YteijccjdejjbjaaDoor
