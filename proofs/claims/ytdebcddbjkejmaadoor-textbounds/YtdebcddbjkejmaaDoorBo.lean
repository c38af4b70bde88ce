import Derived.Test.YtdebcddbjkejmaaDoorNp
namespace Go.Proofs.YtdebcddbjkejmaaDoor
open Go.RowKit TextNum

theorem prs_itoa_neg {n max : Int} (h : n < 0) (h0 : -9223372036854775808 ≤ n) : prs (Go.Lib.itoa n) max = (0, 62) :=
  prs_no (by have := itoa_len n h0 (by omega); omega) (isN_neg n h)
theorem prs_itoa_pos {n max : Int} (h : 0 ≤ n) (h1 : n ≤ 9223372036854775807) : prs (Go.Lib.itoa n) max = if n ≤ max then (n, 0) else (0, 63) := by
  obtain ⟨m, rfl⟩ := Int.eq_ofNat_of_zero_le h
  have hl : ¬ 1048576 < (Go.Lib.itoa (m : Int)).length := by have := itoa_len (m : Int) (by omega) h1; omega
  rw [itoa_nat] at hl ⊢
  by_cases hm : (m : Int) ≤ max
  · rw [prs_ok hl (isN_dec m) (by rw [nv_dec]; exact hm) (by rw [nv_dec]; omega), nv_dec, if_pos hm]
  · rw [prs_rng hl (isN_dec m) (by rw [nv_dec]; omega), if_neg hm]
theorem itoa_neg {n : Int} (h : n < 0) : ∃ r, Go.Lib.itoa n = 45 :: r ∧ 1 ≤ r.length := by
  unfold Go.Lib.itoa
  rw [if_pos h]
  exact ⟨_, rfl, by rw [Go.Lib.decDigits_length]; exact Go.Lib.nDigits_pos _⟩

set_option maxRecDepth 100000 in
theorem bounds_walk (n max : Int) (h0 : -9223372036854775808 ≤ n) (h1 : n ≤ 9223372036854775807) (w : World) (hG : GN w) : Calls Tryd.prog 6 #[.int .i64 n, .int .i64 max] w fun e w' => e = .returned (.bool true) ∧ Up w w' := by
  have HG := Hid.of hG
  clear hG
  go_enter Tryd.func6, Tryd.ntmps6
  go_wp2_with fail
  refine (FormatNumber_walk n h0 h1 w HG.out).mono ?_
  rintro e w1 ⟨rfl, u1⟩
  have H1 := Hid.of u1
  clear u1
  obtain ⟨sb, hsb⟩ : ∃ sb : ByteArray, sb = ⟨(Go.Lib.itoa n).toArray⟩ := ⟨_, rfl⟩
  rw [show vs (Go.Lib.itoa n) = .string sb by rw [hsb]]
  have hd : sb.data.toList = Go.Lib.itoa n := by rw [hsb]
  have HD := Hid.of hd
  clear hsb hd
  dsimp only
  go_wp2_with fail
  refine (ParseNumber_walk sb max w1 (HG.out.up H1.out)).mono ?_
  rintro e w2 ⟨rfl, u2⟩
  have H2 := Hid.of (H1.out.trans u2)
  clear u2 H1
  rw [HD.out]
  by_cases hn : n < 0
  · rw [prs_itoa_neg hn h0]
    obtain ⟨r, hr, hrl⟩ := itoa_neg hn
    have hsz : sb.size = r.length + 1 := by rw [Go.Lib.size_eq, HD.out, hr]; simp
    have hp : 0 < sb.size := by omega
    have hp1 : (1 : Int) < (sb.size : Int) := by omega
    have h45 : sb[0].toNat = 45 := by
      obtain ⟨r', hr'⟩ := head_of' hp
      rw [HD.out, hr] at hr'
      injection hr' with h2 _
      rw [← h2]; rfl
    have c45 : (sb[0].toNat : Int) = 45 := by omega
    have HH := Hid.of (And.intro hr (And.intro hrl hsz))
    clear hr hrl hsz h45
    dsimp only
    go_wp2
    go_ret
    exact ⟨rfl, H2.out⟩
  · have hn' : 0 ≤ n := by omega
    rw [prs_itoa_pos hn' h1]
    by_cases hm : n ≤ max
    · rw [if_pos hm]
      have hm' : ¬ max < n := by omega
      dsimp only
      go_wp2
      go_ret
      exact ⟨by simp, H2.out⟩
    · rw [if_neg hm]
      have hm' : max < n := by omega
      dsimp only
      go_wp2
      go_ret
      exact ⟨by simp, H2.out⟩
end Go.Proofs.YtdebcddbjkejmaaDoor
