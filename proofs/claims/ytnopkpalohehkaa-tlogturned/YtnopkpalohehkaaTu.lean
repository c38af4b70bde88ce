import Derived.Test.YtnopkpalohehkaaOr
namespace Go.Proofs.Ytnopkpalohehkaa
open Go.RowKit Tlg

set_option maxRecDepth 100000 in
set_option maxHeartbeats 1000000 in
theorem turned_walk (x : Int) (h0 : -9223372036854775808 ≤ x) (h1 : x ≤ 9223372036854775807) (w : World) :
    Calls Try.prog 5 #[.int .i64 x] w fun e w' => e = .returned (.bool true) ∧ Up w w' := by
  go_enter Try.func5, Try.ntmps5
  go_wp2_with fail
  refine Calls.mono (Split_walk x h0 h1 w) ?_
  rintro e w1 ⟨rfl, u1⟩
  by_cases c1 : x < 0 ∨ (562949953421311 : Int) < x
  · have HS : Hid (spl x = (0, 0, 1)) := by unfold spl; exact if_neg (by omega)
    have HR : Hid (rec' x = (0, 80)) := by unfold rec'; exact if_neg (by omega)
    rw [HS.out]
    dsimp only
    go_wp2_with fail
    refine Calls.mono (Records_walk x h0 h1 w1) ?_
    rintro e w2 ⟨rfl, rfl⟩
    rw [HR.out]
    dsimp only
    rcases c1 with c | c
    · go_wp2_with fail
      refine Calls.mono (order_walk 3 5 (by omega) (by omega) (by omega) (by omega) w2) ?_
      rintro e w3 ⟨rfl, u3⟩
      dsimp only
      go_wp2
      go_ret
      exact ⟨rfl, u1.trans u3⟩
    · have d1 : decide (x < 0) = false := by simp; omega
      go_wp2_with fail
      refine Calls.mono (order_walk 3 5 (by omega) (by omega) (by omega) (by omega) w2) ?_
      rintro e w3 ⟨rfl, u3⟩
      dsimp only
      go_wp2
      go_ret
      exact ⟨rfl, u1.trans u3⟩
  · obtain ⟨c, rfl⟩ : ∃ c : Nat, x = (c : Int) := ⟨x.toNat, by omega⟩
    have d1 : decide ((c : Int) < 0) = false := by simp
    have d2 : decide ((562949953421311 : Int) < (c : Int)) = false := by simp; omega
    have hcb : c ≤ 562949953421311 := by omega
    clear c1
    by_cases c2 : c = 562949953421311
    · have hcc : c < lay (281474976710656 + 1) := by
        have := lay_succ 281474976710656
        have ht : lay 281474976710656 = 562949953421311 := lay_top
        omega
      have ht : lay 281474976710656 = 562949953421311 := lay_top
      have e1 : rn c = 281474976710656 := rn_uniq (show c ≤ 2 ^ 49 - 1 from hcb) (by omega) hcc
      have e2 : rr c = 0 := by rw [rr_of (show c ≤ 2 ^ 49 - 1 from hcb) (by omega) hcc]; omega
      have HS : Hid (spl (c : Int) = (0, 0, 1)) := by unfold spl; exact if_neg (by omega)
      have HR : Hid (rec' (c : Int) = (281474976710656, 0)) := by
        have := rec_yes hcb e2
        rw [e1] at this; exact this
      clear e1 e2 ht hcc
      subst c2
      rw [HS.out]
      dsimp only
      go_wp2_with fail
      refine Calls.mono (Records_walk ((562949953421311 : Nat) : Int) h0 h1 w1) ?_
      rintro e w2 ⟨rfl, rfl⟩
      rw [HR.out]
      dsimp only
      go_wp2
      go_ret
      exact ⟨rfl, u1⟩
    · have hcl : c < 562949953421311 := by omega
      obtain ⟨b1, b2, b3, b4⟩ := nd_fit hcl
      have HS := Hid.of (spl_yes hcl)
      obtain ⟨p1, p2⟩ := plc_of (show c ≤ 2 ^ 49 - 1 from hcb)
      have HX := Hid.of (idx_yes (l := rr c) (n := nd c) b1 (by rw [b3]; omega))
      rw [p1] at HX
      have b5 : nd c + 1 ≤ rn c + 1 := by rw [← b4]; exact Nat.div_le_self _ _
      have c3 : ((c : Int) == 562949953421311) = false := by simp; omega
      clear c2
      have HN : Hid (rr c = 0 → nd c = rn c) := by
        intro h
        have := p2
        rw [h] at this
        simp at this; omega
      by_cases hr : rr c = 0
      · have HR := Hid.of (rec_yes hcb hr)
        have hn := HN.out hr
        rw [hr, hn] at HS HX
        clear p1 p2 b1 b3 b4 HN hr
        rw [hn] at b5
        clear hn
        generalize rn c = q at *
        rw [HS.out]
        dsimp only
        go_wp2_with fail
        refine Calls.mono (Records_walk (c : Int) h0 h1 w1) ?_
        rintro e w2 ⟨rfl, rfl⟩
        rw [HR.out]
        dsimp only
        go_wp2_with fail
        refine Calls.mono (Index_walk 0 (q : Int) (by omega) (by omega) (by omega) (by omega) w2) ?_
        rintro e w3 ⟨rfl, rfl⟩
        rw [show idx 0 (q : Int) = ((c : Int), 0) from HX.out]
        dsimp only
        go_wp2
        go_ret
        exact ⟨rfl, u1⟩
      · have HR := Hid.of (rec_no hr)
        have hr0 : 0 < rr c := by omega
        clear p1 p2 b3 b4 HN hr
        generalize rn c = q at *
        generalize rr c = r at *
        generalize nd c = d at *
        rw [HS.out]
        dsimp only
        go_wp2_with fail
        refine Calls.mono (Records_walk (c : Int) h0 h1 w1) ?_
        rintro e w2 ⟨rfl, rfl⟩
        rw [HR.out]
        dsimp only
        go_wp2_with fail
        refine Calls.mono (Index_walk (r : Int) (d : Int) (by omega) (by omega) (by omega) (by omega) w2) ?_
        rintro e w3 ⟨rfl, rfl⟩
        rw [HX.out]
        dsimp only
        go_wp2
        go_ret
        exact ⟨rfl, u1⟩
end Go.Proofs.Ytnopkpalohehkaa
