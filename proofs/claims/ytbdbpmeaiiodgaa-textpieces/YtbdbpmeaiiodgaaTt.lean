import Derived.Test.YtbdbpmeaiiodgaaTr
namespace Go.Proofs.Ytbdbpmeaiiodgaa
open Go.RowKit Go.Shelf TextNum
set_option maxRecDepth 100000 in
set_option maxHeartbeats 1000000 in
theorem pieces_walk (s : ByteArray) (w : World) : Calls Try.prog 3 #[.string s] w fun e w' => e = .returned (.bool true) ∧ Up w w' := by
  by_cases h1 : 1048576 < s.size
  · have hE : lnE s.data.toList = 2 := if_pos (by rw [← Go.Lib.size_eq]; exact h1)
    have h1' : (1048576 : Int) < (s.size : Int) := by omega
    go_enter Try.func3, Try.ntmps3
    go_wp2_with fail
    refine (Lines_walk s w).mono ?_
    rintro e W1 ⟨v, rfl, hv, -, u1⟩
    rw [hE] at hv ⊢
    obtain rfl := hv (by decide)
    have HU := Hid.of u1
    clear hv u1 hE
    dsimp only
    go_wp2
    go_ret
    exact ⟨rfl, HU.out⟩
  · by_cases he : s.data.toList = [] ∨ s.data.toList.getLast? = some 10
    · exact pieces_main s (by omega) he w
    · have hE : lnE s.data.toList = 64 := by
        unfold lnE
        rw [if_neg (by rw [← Go.Lib.size_eq]; exact h1), if_neg he]
      have hsz := Go.Lib.size_eq s
      have hpos : 0 < s.size := by
        rcases Nat.eq_zero_or_pos s.size with h | h
        · exact absurd (.inl (List.length_eq_zero_iff.1 (by omega))) he
        · exact h
      have hb : s.toList.isEmpty = false := eno (by omega)
      have hl : s.size - 1 < s.size := by omega
      have hb2 : ((s[s.size - 1].toNat : Int) == 10) = false := by
        refine Bool.eq_false_iff.2 fun h => he (.inr ?_)
        have h2 : (s[s.size - 1].toNat : Int) = 10 := by simpa using h
        have h3 : s[s.size - 1] = 10 := UInt8.toNat_inj.1 (show s[s.size - 1].toNat = 10 by omega)
        rw [sget' s (s.size - 1) hl] at h3
        rw [List.getLast?_eq_getElem?, ← hsz, List.getElem?_eq_getElem (by omega), h3]
      have hb3 : (0 : Int) < (s.size : Int) := by omega
      have h1' : ¬ (1048576 : Int) < (s.size : Int) := by omega
      clear he hsz
      go_enter Try.func3, Try.ntmps3
      go_wp2_with fail
      refine (Lines_walk s w).mono ?_
      rintro e W1 ⟨v, rfl, hv, -, u1⟩
      rw [hE] at hv ⊢
      obtain rfl := hv (by decide)
      have HU := Hid.of u1
      clear hv u1 hE
      dsimp only
      go_wp2
      go_ret
      exact ⟨rfl, HU.out⟩
end Go.Proofs.Ytbdbpmeaiiodgaa
