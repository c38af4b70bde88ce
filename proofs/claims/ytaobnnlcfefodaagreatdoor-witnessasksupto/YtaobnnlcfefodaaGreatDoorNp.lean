import Derived.Test.YtaobnnlcfefodaaGreatDoorNu
namespace Go.Proofs.YtaobnnlcfefodaaGreatDoor
open Go.RowKit TextNum

theorem prs_long {l : List UInt8} {max : Int} (h : 1048576 < l.length) : prs l max = (0, 2) := if_pos h
theorem prs_no {l : List UInt8} {max : Int} (h : ¬ 1048576 < l.length) (hn : isN l = false) : prs l max = (0, 62) := by unfold prs; rw [if_neg h, if_neg (by rw [hn]; simp)]
theorem prs_ok {l : List UInt8} {max : Int} (h : ¬ 1048576 < l.length) (hn : isN l = true) (h1 : (nv l : Int) ≤ max) (h2 : nv l < 9223372036854775808) : prs l max = ((nv l : Int), 0) := by unfold prs; rw [if_neg h, if_pos hn, if_pos ⟨h1, h2⟩]
theorem prs_rng {l : List UInt8} {max : Int} (h : ¬ 1048576 < l.length) (hn : isN l = true) (h1 : ¬ ((nv l : Int) ≤ max ∧ nv l < 9223372036854775808)) : prs l max = (0, 63) := by unfold prs; rw [if_neg h, if_pos hn, if_neg h1]

set_option maxRecDepth 100000 in
theorem ParseNumber_walk (s : ByteArray) (max : Int) (w : World) (hG : GN w) :
    Calls Tryz.prog 39 #[.string s, .int .i64 max] w fun e w' => e = .returned (.tuple #[.int .i64 (prs s.data.toList max).1, .int .i64 (prs s.data.toList max).2]) ∧ Up w w' := by
  have HG := Hid.of hG
  clear hG
  have HS := Hid.of (Go.Lib.size_eq s)
  go_enter Tryz.func39, Tryz.ntmps39
  go_wp2_with fail
  refine (tooLong_walk s w).mono ?_
  rintro e w' ⟨rfl, hw⟩
  obtain rfl := hw.symm
  dsimp only
  by_cases h1 : 1048576 < s.size
  · have d1 : decide (1048576 < s.size) = true := by simpa using h1
    rw [d1]
    go_wp2
    go_ret2
    rw [prs_long (by rw [← HS.out]; exact h1)]
    exact ⟨rfl, Up.refl _⟩
  · have d1 : decide (1048576 < s.size) = false := by simpa using h1
    rw [d1]
    have hle : s.size ≤ 1048576 := by omega
    have HN := Hid.of (show ¬ 1048576 < s.data.toList.length by rw [← HS.out]; exact h1)
    clear d1 h1
    go_wp2_with fail
    refine (isNumber_walk s hle w).mono ?_
    rintro e w' ⟨rfl, hw⟩
    obtain rfl := hw.symm
    dsimp only
    cases hn : isN s.data.toList with
    | false =>
      have HF := Hid.of (prs_no (max := max) HN.out hn)
      clear hn
      go_wp2
      go_ret2
      rw [HF.out]
      exact ⟨rfl, Up.refl _⟩
    | true =>
      have hp := parse_isN hn
      by_cases hv : nv s.data.toList < 9223372036854775808
      · rw [if_pos hv] at hp
        have HP := Hid.of (And.intro hp hn)
        obtain ⟨n, hnv⟩ : ∃ n, n = nv s.data.toList := ⟨_, rfl⟩
        have HV := Hid.of (And.intro hnv hv)
        rw [← hnv] at hp
        have HP2 := Hid.of hp
        clear hn hp hv hnv
        go_wp2_with fail
        refine Calls.mono (Go.Proofs.Any.strconv_ParseInt_10_at64_ok Tryz.laysc174 s (by omega) (n : Int) HP2.out w) ?_
        rintro e w2 ⟨rfl, hw2⟩
        have hu : Up w w2 := by
          rcases hw2 with rfl | ⟨t, rfl⟩
          · exact Up.refl _
          · exact up_bytes _ _ _
        have HU := Hid.of hu
        clear hw2 hu
        dsimp only
        by_cases hm : (n : Int) ≤ max
        · have HF := Hid.of (prs_ok (max := max) HN.out HP.out.2 (by rw [← HV.out.1]; exact hm) HV.out.2)
          have hm' : ¬ max < (n : Int) := by omega
          have dm : decide (max < (n : Int)) = false := by simp; omega
          go_wp2
          go_ret2
          rw [HF.out, ← HV.out.1]
          exact ⟨rfl, HU.out⟩
        · have HF := Hid.of (prs_rng (max := max) HN.out HP.out.2 (by rw [← HV.out.1]; omega))
          have hm' : max < (n : Int) := by omega
          go_wp2
          go_ret2
          rw [HF.out]
          exact ⟨rfl, HU.out⟩
      · rw [if_neg hv] at hp
        have HF := Hid.of (prs_rng (max := max) HN.out hn (by omega))
        have HP := Hid.of hp
        clear hn hp hv
        obtain ⟨te, pe, hc⟩ := HG.out.rng
        have HC := Hid.of hc
        clear hc
        go_wp2_with fail
        refine Calls.mono (Go.Proofs.Any.strconv_ParseInt_10_at64_range Tryz.laysc174 s (by omega) HP.out (.iface te pe) w HC.out (.inr ⟨te, pe, rfl⟩)) ?_
        rintro e w2 ⟨N, rfl, hN, hw2, hb⟩
        have HU := Hid.of (show Up w w2 from hb)
        clear hN hw2 hb
        generalize Go.Lib.intSat 64 s.data.toList = q
        dsimp only
        go_wp2
        go_ret2
        rw [HF.out]
        exact ⟨rfl, HU.out⟩
end Go.Proofs.YtaobnnlcfefodaaGreatDoor
