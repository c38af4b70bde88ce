import Derived.Test.YtdlfkdehfenemaaAw
namespace Go.Proofs.Ytdlfkdehfenemaa
open Go.RowKit Go.Conc TextNum
theorem fts_nil (w : World) : Fts w nilS [] := ⟨none, 0, rfl, Nat.le_refl _, Nat.zero_le _, fun _ => ⟨rfl, rfl⟩, fun _ e => by cases e⟩
set_option maxRecDepth 100000 in
theorem LaneNumbers_walk (w : World) : Calls Try.prog 3 #[] w fun e w' => e = .returned (.bool true) ∧ Up w w' := by
  have hN := New_yes w 1 nilS [] (by omega) (by omega) (fts_nil w) rfl
  go_enter Try.func3, Try.ntmps3
  go_wp2_with fail
  refine hN.mono ?_
  rintro e w1 ⟨S, rfl, h1, _, _, _, u1, _⟩
  have HU := Hid.of u1
  clear u1 h1 hN
  dsimp only
  have k0 := num_walk w1 0
  have k1 := num_walk w1 190
  have k2 := num_walk w1 191
  have k3 := num_walk w1 192
  go_wp2_with fail
  refine k0.mono ?_
  rintro e w2 ⟨rfl, rfl⟩
  dsimp only
  go_wp2_with fail
  refine k1.mono ?_
  rintro e w2 ⟨rfl, rfl⟩
  dsimp only
  go_wp2_with fail
  refine k2.mono ?_
  rintro e w2 ⟨rfl, rfl⟩
  dsimp only
  go_wp2_with fail
  refine k3.mono ?_
  rintro e w2 ⟨rfl, rfl⟩
  dsimp only
  go_wp2
  go_ret
  exact ⟨rfl, HU.out⟩
end Go.Proofs.Ytdlfkdehfenemaa
