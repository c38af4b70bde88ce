import Derived.Test.YtpjfmkmgfjhnmaaPf
import Derived.Test.YtpjfmkmgfjhnmaaCv
namespace Go.Proofs.Ytpjfmkmgfjhnmaa
open Go.RowKit Tlg
set_option maxRecDepth 100000 in
set_option maxHeartbeats 4000000 in
theorem law_ok (n i m : Int) (n0 : -9223372036854775808 ≤ n) (n1 : n ≤ 9223372036854775807) (m0 : -9223372036854775808 ≤ m) (m1 : m ≤ 9223372036854775807) (hn : 1 ≤ n) (hn' : n ≤ 281474976710656) (hi : 0 ≤ i) (hi' : i < n) (w : World) :
    Calls Try.prog 3 #[.int .i64 n, .int .i64 i, .int .i64 m] w fun e w' => e = .returned (.bool true) ∧ Up w w' := by
  have HOK : Hid (win n i = true) := win_iff.2 ⟨hn', hi, hi'⟩
  obtain ⟨N, rfl⟩ : ∃ N : Nat, n = (N : Int) := ⟨n.toNat, by omega⟩
  have hN : N ≤ 281474976710656 := by omega
  have hN1 : 1 ≤ N := by omega
  have hn1 : ¬ (N : Int) < 1 := by omega
  have hn2 : ¬ (281474976710656 : Int) < (N : Int) := by omega
  clear n0 n1 hn hn'
  obtain ⟨I, rfl⟩ : ∃ I : Nat, i = (I : Int) := ⟨i.toNat, by omega⟩
  have hI : I < N := by omega
  have hi1 : ¬ (I : Int) < 0 := by omega
  have hi2 : ¬ (N : Int) ≤ (I : Int) := by omega
  clear hi hi'
  have HR := fun w => Hid.of (RecordPlaces_walk (N : Int) (I : Int) w)
  go_enter Try.func3, Try.ntmps3
  go_wp2_with fail
  refine (RecordPlaces_walk 2 0 _).mono ?_
  rintro e w1 ⟨r1, u1⟩
  obtain ⟨v1, rfl, q1⟩ := r1.1 (by decide)
  obtain ⟨g, c, g2, c2, rfl, d1, d2⟩ := two_fin (show WR w w1 2 0 false v1 from q1)
  have HU1 := Hid.of u1
  clear r1 q1 u1
  dsimp only
  go_wp2_with fail
  refine (HR _).out.mono ?_
  clear d1 d2
  rintro e w2 ⟨r2, u2⟩
  obtain ⟨v2, rfl, q2⟩ := r2.1 HOK.out
  obtain ⟨L, hG, hC⟩ := rec_fin (show WR w1 w2 N I false v2 from q2)
  have HV : Hid (∀ x : Int, x = 0 → Calls Try.prog 5 #[v2, .int .i64 x, .int .i64 (N : Int), .int .i64 (I : Int), .int .i64 x] w2 fun e w' => e = .returned (.bool true) ∧ Up w2 w') := by
    intro x hx
    subst hx
    exact covers_walk w2 _ v2 L [(I, I + 1)] 0 N 0 (I : Int) hG (.inr ⟨I, rfl, rfl, by omega⟩) (by omega) (by omega) (by omega) hC
  have HU2 := Hid.of (HU1.out.trans u2)
  clear r2 u2 q2 hG hC HU1 HOK
  dsimp only
  go_wp2_with fail
  refine (HV.out 0 rfl).mono ?_
  rintro e w3 ⟨rfl, u3⟩
  have HU2 := Hid.of (HU2.out.trans u3)
  clear u3 HV
  dsimp only
  go_wp2_with fail
  by_cases t1 : m < 1
  · have HTN : Hid (win (N : Int) (tid m) = false) := by
      have h := tid_win (n := (N : Int)) m0 m1
      rcases e : win (N : Int) (tid m) with _ | _
      · rfl
      · have := h.1 e; omega
    refine (TreePlaces_walk _ m _).mono ?_
    rintro e w4 ⟨r4, u4⟩
    obtain rfl := r4.2 HTN.out
    have HU4 := Hid.of (HU2.out.trans u4)
    clear r4 u4 HU2 HTN
    dsimp only
    go_wp2
    go_ret
    exact ⟨by first | rfl | simp, HU4.out⟩
  by_cases t2 : (N : Int) < m
  · have HTN : Hid (win (N : Int) (tid m) = false) := by
      have h := tid_win (n := (N : Int)) m0 m1
      rcases e : win (N : Int) (tid m) with _ | _
      · rfl
      · have := h.1 e; omega
    refine (TreePlaces_walk _ m _).mono ?_
    rintro e w4 ⟨r4, u4⟩
    obtain rfl := r4.2 HTN.out
    have HU4 := Hid.of (HU2.out.trans u4)
    clear r4 u4 HU2 HTN
    dsimp only
    go_wp2
    go_ret
    exact ⟨by first | rfl | simp, HU4.out⟩
  obtain ⟨M, rfl⟩ : ∃ M : Nat, m = (M : Int) := ⟨m.toNat, by omega⟩
  have HTK : Hid (win (N : Int) (tid (M : Int)) = true) := (tid_win m0 m1).2 ⟨by omega, by omega, by omega⟩
  have hMN : M ≤ N := by omega
  have hM1 : 1 ≤ M := by omega
  have HW := Hid.of (and_wh (n := M) (by omega) (by omega))
  obtain ⟨K, hK⟩ : ∃ K, M - 1 = K := ⟨_, rfl⟩
  rw [hK] at HW
  have HK : Hid (M = K + 1) := by show M = K + 1; omega
  have eK : (M : Int) - 1 = (K : Int) := by omega
  have hKb : K ≤ 281474976710656 := by omega
  clear hK m0 m1
  rcases hw : wh M with _ | _
  · have hbt : (bits BinOp.and IntKind.i64 (M : Int) (K : Int) == 0) = false := HW.out.trans hw
    by_cases hME : M = N
    · have HLo : Hid (low M N = M) := by
        show low M N = M
        unfold low
        rw [if_pos]
        rw [hME]; simp
      have hME' : ((M : Int) == (N : Int)) = true := by simp; omega
      clear hw HW hME
      refine (TreePlaces_walk _ _ _).mono ?_
      rintro e w4 ⟨r4, u4⟩
      obtain ⟨v4, rfl, q4⟩ := r4.1 HTK.out
      have e1 : (tid (M : Int)).toNat = K := by have := HK.out; rw [tid_nat (by omega) (by omega)]; omega
      rw [e1, Int.toNat_natCast] at q4
      obtain ⟨L, hG, hC⟩ := tree_fin hN q4
      rw [← HK.out, HLo.out] at hC
      have HV : Hid (∀ x : Int, x = ((M : Nat) : Int) → Calls Try.prog 5 #[v4, .int .i64 x, .int .i64 (N : Int), .int .i64 (-1), .int .i64 (M : Int)] w4 fun e w' => e = .returned (.bool true) ∧ Up w4 w') := by
        intro x hx
        subst hx
        exact covers_walk w4 _ v4 L [] M N M (-1) hG (.inl ⟨rfl, rfl⟩) (by omega) (by omega) (by omega) hC
      have HU4 := Hid.of (HU2.out.trans u4)
      clear r4 u4 q4 hG hC HU2 HTK e1
      dsimp only
      go_wp2_with fail
      refine (HV.out _ rfl).mono ?_
      rintro e w5 ⟨rfl, u5⟩
      have HU5 := Hid.of (HU4.out.trans u5)
      clear u5 HV HU4
      dsimp only
      go_wp2
      go_ret
      exact ⟨by first | rfl | simp, HU5.out⟩
    · have HLo : Hid (low M N = 0) := by
        show low M N = 0
        unfold low
        rw [if_neg]
        rw [hw]; simp; exact hME
      have hME' : ((M : Int) == (N : Int)) = false := by simp; omega
      clear hw HW hME
      refine (TreePlaces_walk _ _ _).mono ?_
      rintro e w4 ⟨r4, u4⟩
      obtain ⟨v4, rfl, q4⟩ := r4.1 HTK.out
      have e1 : (tid (M : Int)).toNat = K := by have := HK.out; rw [tid_nat (by omega) (by omega)]; omega
      rw [e1, Int.toNat_natCast] at q4
      obtain ⟨L, hG, hC⟩ := tree_fin hN q4
      rw [← HK.out, HLo.out] at hC
      have HV : Hid (∀ x : Int, x = ((0 : Nat) : Int) → Calls Try.prog 5 #[v4, .int .i64 x, .int .i64 (N : Int), .int .i64 (-1), .int .i64 (M : Int)] w4 fun e w' => e = .returned (.bool true) ∧ Up w4 w') := by
        intro x hx
        subst hx
        exact covers_walk w4 _ v4 L [] 0 N M (-1) hG (.inl ⟨rfl, rfl⟩) (by omega) (by omega) (by omega) hC
      have HU4 := Hid.of (HU2.out.trans u4)
      clear r4 u4 q4 hG hC HU2 HTK e1
      dsimp only
      go_wp2_with fail
      refine (HV.out _ rfl).mono ?_
      rintro e w5 ⟨rfl, u5⟩
      have HU5 := Hid.of (HU4.out.trans u5)
      clear u5 HV HU4
      dsimp only
      go_wp2
      go_ret
      exact ⟨by first | rfl | simp, HU5.out⟩
  · have hbt : (bits BinOp.and IntKind.i64 (M : Int) (K : Int) == 0) = true := HW.out.trans hw
    have HLo : Hid (low M N = M) := by
      show low M N = M
      unfold low
      rw [if_pos]
      rw [hw]; simp
    clear hw HW
    refine (TreePlaces_walk _ _ _).mono ?_
    rintro e w4 ⟨r4, u4⟩
    obtain ⟨v4, rfl, q4⟩ := r4.1 HTK.out
    have e1 : (tid (M : Int)).toNat = K := by have := HK.out; rw [tid_nat (by omega) (by omega)]; omega
    rw [e1, Int.toNat_natCast] at q4
    obtain ⟨L, hG, hC⟩ := tree_fin hN q4
    rw [← HK.out, HLo.out] at hC
    have HV : Hid (∀ x : Int, x = ((M : Nat) : Int) → Calls Try.prog 5 #[v4, .int .i64 x, .int .i64 (N : Int), .int .i64 (-1), .int .i64 (M : Int)] w4 fun e w' => e = .returned (.bool true) ∧ Up w4 w') := by
      intro x hx
      subst hx
      exact covers_walk w4 _ v4 L [] M N M (-1) hG (.inl ⟨rfl, rfl⟩) (by omega) (by omega) (by omega) hC
    have HU4 := Hid.of (HU2.out.trans u4)
    clear r4 u4 q4 hG hC HU2 HTK e1
    dsimp only
    go_wp2_with fail
    refine (HV.out _ rfl).mono ?_
    rintro e w5 ⟨rfl, u5⟩
    have HU5 := Hid.of (HU4.out.trans u5)
    clear u5 HV HU4
    dsimp only
    go_wp2
    go_ret
    exact ⟨by first | rfl | simp, HU5.out⟩
end Go.Proofs.Ytpjfmkmgfjhnmaa
