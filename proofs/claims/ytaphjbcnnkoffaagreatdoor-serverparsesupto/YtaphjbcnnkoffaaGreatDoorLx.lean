import Derived.Test.YtaphjbcnnkoffaaGreatDoorMe
namespace Go.Proofs.YtaphjbcnnkoffaaGreatDoor
open Go.RowKit Go.Shelf TextNum
set_option maxRecDepth 100000 in
theorem slCut_walk (s : ByteArray) (hs : s.size ≤ 4611686018427387904) (c : UInt8) (w : World) : Calls Tryz.prog 123 #[.string s, .string ⟨#[c]⟩] w fun e w' => e = .returned (.tuple #[.string ⟨(Go.Lib.cut s.data.toList [c]).1.toArray⟩, .string ⟨(Go.Lib.cut s.data.toList [c]).2.1.toArray⟩, .bool (Go.Lib.cut s.data.toList [c]).2.2]) ∧ ∃ n, w' = w.drewN n := by
  have hix : Go.Lib.indexB s ⟨#[c]⟩ = Go.Lib.indexByte s.data.toList c := Go.Lib.index_one _ _
  have L : Lays.n219 Tryz.prog Tryz.lays145_ren := { Tryz.lays145 with }
  rcases Go.Lib.indexB_cases s ⟨#[c]⟩ with hx | ⟨i, hx, hroom⟩
  · obtain ⟨e1, e2, e3⟩ := Go.Lib.cutB_miss s ⟨#[c]⟩ hx
    rw [hix] at hx
    rw [show [c] = (⟨#[c]⟩ : ByteArray).data.toList from rfl, e1, e2, e3]
    clear e1 e2 e3 hix
    go_enter Tryz.func123, Tryz.ntmps123
    go_wp2_with fail
    refine (Any.stringslite_Index_one L s c w).mono ?_
    rintro e w' ⟨rfl, rfl⟩
    rw [hx]
    dsimp only
    go_wp2
    go_ret3
    exact ⟨rfl, 0, rfl⟩
  · obtain ⟨e1, e2, e3⟩ := Go.Lib.cutB_hit s ⟨#[c]⟩ i hx
    rw [hix] at hx
    rw [show [c] = (⟨#[c]⟩ : ByteArray).data.toList from rfl, e1, e2, e3]
    have hr : i + 1 ≤ s.size := hroom
    have c1 : (0 : Int) ≤ ↑i := by omega
    have c2 : (↑i : Int) ≤ ↑s.size := by omega
    have c3 : (0 : Int) ≤ ↑i + 1 := by omega
    have c4 : (↑i + 1 : Int) ≤ ↑s.size := by omega
    have c5 : IntKind.i64.wrap ((i : Int) + 1) = (i : Int) + 1 := by
      simp only [IntKind.wrap, IntKind.signed, IntKind.bits]
      simp
      omega
    have mixed := L.mixed
    clear e1 e2 e3 hix hroom
    go_enter Tryz.func123, Tryz.ntmps123
    go_wp2_with fail
    refine (Any.stringslite_Index_one L s c w).mono ?_
    rintro e w' ⟨rfl, rfl⟩
    rw [hx]
    dsimp only
    go_wp2
    go_region_o
    go_wp2
    go_ret3
    exact ⟨rfl, 1, rfl⟩
set_option maxRecDepth 100000 in
theorem Cut1_walk (s : ByteArray) (hs : s.size ≤ 4611686018427387904) (c : UInt8) (w : World) : Calls Tryz.prog 90 #[.string s, .string ⟨#[c]⟩] w fun e w' => e = .returned (.tuple #[.string ⟨(Go.Lib.cut s.data.toList [c]).1.toArray⟩, .string ⟨(Go.Lib.cut s.data.toList [c]).2.1.toArray⟩, .bool (Go.Lib.cut s.data.toList [c]).2.2]) ∧ ∃ n, w' = w.drewN n := by
  go_enter Tryz.func90, Tryz.ntmps90
  go_wp2_with fail
  refine (slCut_walk s hs c w).mono ?_
  rintro e w' ⟨rfl, n, rfl⟩
  dsimp only
  go_wp2
  go_ret3
  exact ⟨rfl, n, rfl⟩
theorem CutA_walk (s : ByteArray) (hs : s.size ≤ 4611686018427387904) (c : UInt8) (w : World) : Calls Tryz.prog 90 #[.string s, .string ⟨#[c]⟩] w fun e w' => e = .returned (.tuple #[.string ⟨(ModNum.ahd c s.data.toList).toArray⟩, .string ⟨(ModNum.bhd c s.data.toList).toArray⟩, .bool (decide (c ∈ s.data.toList))]) ∧ Up w w' := by
  refine (Cut1_walk s hs c w).mono ?_
  rintro e w' ⟨rfl, n, rfl⟩
  rw [cut_one]
  exact ⟨rfl, (Up.refl w).drewN n⟩
end Go.Proofs.YtaphjbcnnkoffaaGreatDoor
