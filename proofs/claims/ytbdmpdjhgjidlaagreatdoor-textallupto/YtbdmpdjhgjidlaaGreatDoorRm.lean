import Derived.Test.YtbdmpdjhgjidlaaGreatDoorRn
import Derived.Laws.Cover1
import Derived.Lib.Strings
namespace TextNum
theorem nvf_lt : ∀ (l m : List UInt8) (a b : Nat), l.all isD = true → l.length = m.length → a < b → nvf a l < nvf b m
  | [], [], _, _, _, _, h => h
  | [], _ :: _, _, _, _, h, _ => by simp at h
  | _ :: _, [], _, _, _, h, _ => by simp at h
  | c :: l, d :: m, a, b, hl, hn, h => by
    rw [nvf_cons, nvf_cons]
    simp only [List.all_cons, Bool.and_eq_true] at hl
    have := isD_iff.1 hl.1
    exact nvf_lt l m _ _ hl.2 (by simpa using hn) (by omega)
theorem nvf_lt2 : ∀ (r m : List UInt8) (a : Nat), m.all isD = true → m.length ≤ r.length → 1 ≤ a → nvf 0 m < nvf a r
  | [], m, a, hm, h, ha => by
    obtain rfl : m = [] := List.eq_nil_of_length_eq_zero (by simpa using h)
    exact ha
  | x :: r, m, a, hm, h, ha => by
    rcases Nat.lt_or_ge m.length (x :: r).length with h1 | h1
    · rw [nvf_cons]
      exact nvf_lt2 r m _ hm (by simp at h1; omega) (by omega)
    · exact nvf_lt m (x :: r) 0 a hm (by omega) (by omega)
theorem nv_longer {l m : List UInt8} (hl : isN l = true) (hm : m.all isD = true) (h : m.length < l.length) (h1 : 1 ≤ m.length) : nv m < nv l := by
  obtain ⟨c, r, rfl, hc⟩ := isN_cons hl
  have hc' := isD_iff.1 hc
  have hh : c ≠ 48 := by
    simp only [isN, Bool.and_eq_true, Bool.or_eq_true, decide_eq_true_eq] at hl
    rcases hl.2 with h2 | h2
    · omega
    · simpa using h2.2
  have h3 : c.toNat ≠ 48 := fun e => hh (by apply UInt8.toNat_inj.1; simpa using e)
  show nvf 0 m < nvf 0 (c :: r)
  rw [nvf_cons]
  exact nvf_lt2 r m _ hm (by simp at h; omega) (by omega)
theorem less_nv : ∀ (l m : List UInt8) (a : Nat), l.all isD = true → m.all isD = true → l.length = m.length → Go.Op.bytesLess l m = decide (nvf a l < nvf a m)
  | [], [], a, _, _, _ => by simp [Go.Op.bytesLess]
  | [], _ :: _, _, _, _, h => by simp at h
  | _ :: _, [], _, _, _, h => by simp at h
  | c :: l, d :: m, a, hl, hm, hn => by
    rw [nvf_cons, nvf_cons, Go.Op.bytesLess]
    simp only [List.all_cons, Bool.and_eq_true] at hl hm
    have h1 := isD_iff.1 hl.1
    have h2 := isD_iff.1 hm.1
    have hn' : l.length = m.length := by simpa using hn
    rcases Nat.lt_trichotomy c.toNat d.toNat with h | h | h
    · have e1 : decide (c < d) = true := by simpa using UInt8.lt_iff_toNat_lt.2 h
      rw [e1, Bool.true_or, decide_eq_true (nvf_lt l m _ _ hl.2 hn' (by omega))]
    · obtain rfl : c = d := UInt8.toNat_inj.1 h
      rw [less_nv l m (10 * a + (c.toNat - 48)) hl.2 hm.2 hn']
      simp
    · have e1 : decide (c < d) = false := by simp only [decide_eq_false_iff_not, UInt8.lt_iff_toNat_lt]; omega
      have e2 : (c == d) = false := by simp; intro e; subst e; omega
      have := nvf_lt m l _ _ hm.2 hn'.symm (show 10 * a + (d.toNat - 48) < 10 * a + (c.toNat - 48) by omega)
      rw [e1, e2, Bool.false_and, Bool.or_false, decide_eq_false (by omega)]
theorem nv_inj {l m : List UInt8} (hl : isN l = true) (hm : isN m = true) (h : nv l = nv m) : l = m := by rw [← dec_nv l hl, ← dec_nv m hm, h]
theorem isN_all {l : List UInt8} (h : isN l = true) : l.all isD = true := by simp only [isN, Bool.and_eq_true] at h; exact h.1
theorem isN_len {l : List UInt8} (h : isN l = true) : 1 ≤ l.length := by obtain ⟨c, r, rfl, _⟩ := isN_cons h; simp
/-- the greater one, as the reference tells it -/
theorem more_nv {l m : List UInt8} (hl : isN l = true) (hm : isN m = true) (hn : l.length = m.length) : (!Go.Op.bytesLess l m && !(l == m)) = decide (nv m < nv l) := by
  rw [less_nv l m 0 (isN_all hl) (isN_all hm) hn]
  show (!decide (nv l < nv m) && !(l == m)) = decide (nv m < nv l)
  rcases Nat.lt_trichotomy (nv l) (nv m) with h | h | h
  · rw [decide_eq_true h, decide_eq_false (by omega)]; rfl
  · rw [nv_inj hl hm h]; simp
  · have : (l == m) = false := by simp; intro e; subst e; omega
    rw [decide_eq_false (by omega), this, decide_eq_true h]; rfl
theorem nv_take (l : List UInt8) (i : Nat) : nv (l.take i) ≤ nv l := by
  have : nv l = nvf (nv (l.take i)) (l.drop i) := by
    conv => lhs; rw [← List.take_append_drop i l]
    simp only [nv, nvf, List.foldl_append]
  rw [this]
  exact nvf_le _ _
end TextNum
namespace Go.Proofs.YtbdmpdjhgjidlaaGreatDoor
open Go.RowKit TextNum

set_option maxRecDepth 100000 in
set_option maxHeartbeats 1000000 in
theorem RParse_walk (s : ByteArray) (max : Int) (h0 : -9223372036854775808 ≤ max) (h1 : max ≤ 9223372036854775807) (w : World) :
    Calls Tryz.prog 18 #[.string s, .int .i64 max] w fun e w' => e = .returned (.tuple #[.int .i64 (prs s.data.toList max).1, .int .i64 (prs s.data.toList max).2]) ∧ Up w w' := by
  have HS := Hid.of (Go.Lib.size_eq s)
  go_enter Tryz.func18, Tryz.ntmps18
  by_cases hl : 1048576 < s.size
  · have d1 : (1048576 : Int) < (s.size : Int) := by omega
    go_wp2
    go_ret2
    rw [prs_long (by rw [← HS.out]; exact hl)]
    exact ⟨rfl, Up.refl _⟩
  · have d1 : ¬ (1048576 : Int) < (s.size : Int) := by omega
    have hle : s.size ≤ 1048576 := by omega
    have HN := Hid.of (show ¬ 1048576 < s.data.toList.length by rw [← HS.out]; exact hl)
    clear hl
    by_cases he : s.size = 0
    · have hs : s = ⟨#[]⟩ := by
        obtain ⟨d⟩ := s
        have : d.size = 0 := he
        rw [Array.size_eq_zero_iff] at this
        subst this; rfl
      subst hs
      have HF := Hid.of (show prs (⟨#[]⟩ : ByteArray).data.toList max = (0, 62) from prs_no HN.out (by rfl))
      go_wp2
      go_ret2
      rw [HF.out]
      exact ⟨rfl, Up.refl _⟩
    · have hne : s.toList.isEmpty = false := by
        rw [Go.Lib.toList_data]
        cases hh : s.data.toList with
        | nil => rw [Go.Lib.size_eq, hh] at he; simp at he
        | cons a b => rfl
      go_wp2
      go_loop [6] (fun v6 => ∃ i : Nat, v6 = .int .i64 (i : Int) ∧ i ≤ s.size ∧ Hid ((s.data.toList.take i).all isD = true)) (fun v6 => s.size - (intOf v6).toNat)
      case atStart => exact ⟨0, rfl, by omega, Hid.of (by simp)⟩
      case round =>
        obtain ⟨i, rfl, hi, hI⟩ := hrel
        by_cases hlt : i < s.size
        · have hlt' : (i : Int) < (s.size : Int) := by omega
          have ht : s.data.toList.take (i + 1) = s.data.toList.take i ++ [s[i]] := by rw [sget' s i hlt]; exact take_succ0 (by rw [← HS.out]; exact hlt)
          by_cases hd : isD s[i] = true
          · have hd' := isD_iff.1 hd
            have HN' := Hid.of (show (s.data.toList.take (i + 1)).all isD = true by rw [ht, List.all_append, hI.out]; simp [hd])
            have b1 : ¬ (s[i].toNat : Int) < 48 := by omega
            have b2 : decide ((s[i].toNat : Int) < 48) = false := by simp; omega
            have b3 : decide ((57 : Int) < (s[i].toNat : Int)) = false := by simp; omega
            clear ht hd hd'
            go_wp2
            go_round
            case rel => exact ⟨i + 1, by go_num, by omega, HN'⟩
            case measure => simp [intOf]; omega
          · have hf : isN s.data.toList = false := by
              unfold isN
              have hno : s.data.toList.all isD = false := by
                rw [List.all_eq_false]
                refine ⟨s[i], ?_, hd⟩
                rw [sget' s i hlt]
                exact List.getElem_mem (by rw [← HS.out]; exact hlt)
              rw [hno]; rfl
            have HF := Hid.of (prs_no (max := max) HN.out hf)
            have hd' : s[i].toNat < 48 ∨ 57 < s[i].toNat := by
              rw [isD_iff] at hd; omega
            clear hd hf ht
            rcases hd' with hd' | hd'
            · have b2 : (s[i].toNat : Int) < 48 := by omega
              go_wp2
              go_ret2
              rw [HF.out]
              exact ⟨rfl, Up.refl _⟩
            · have b2 : decide ((s[i].toNat : Int) < 48) = false := by simp; omega
              have b3 : (57 : Int) < (s[i].toNat : Int) := by omega
              go_wp2
              go_ret2
              rw [HF.out]
              exact ⟨rfl, Up.refl _⟩
        · have hie : i = s.size := by omega
          have hall : s.data.toList.all isD = true := by have := hI.out; rwa [hie, HS.out, List.take_length] at this
          have hN : isN s.data.toList = (decide (s.size = 1) || (decide (1 < s.size) && decide (s.data.toList.head? ≠ some 48))) := by
            unfold isN; rw [hall, Bool.true_and, ← Go.Lib.size_eq]
          have HN2 := Hid.of hN
          have HA := Hid.of hall
          clear hN hall hI
          have hp0 : 0 < s.size := by omega
          obtain ⟨r, hr⟩ := head_of' (s := s) hp0
          by_cases hz : s[0].toNat = 48 ∧ 1 < s.size
          · have b1 : (s[0].toNat : Int) = 48 := by omega
            have b1' : ((s[0].toNat : Int) == 48) = true := by simp; omega
            have b2 : (1 : Int) < (s.size : Int) := by omega
            have hz0 : s[0] = 48 := by apply UInt8.toNat_inj.1; rw [hz.1]; rfl
            have HF := Hid.of (prs_no (max := max) HN.out (by rw [HN2.out, hr, hz0]; simp; omega))
            clear hz hr hz0
            go_wp2
            go_ret2
            rw [HF.out]
            exact ⟨rfl, Up.refl _⟩
          · have hisN : isN s.data.toList = true := by
              rw [HN2.out, hr]
              by_cases h1 : s.size = 1
              · simp [h1]
              · have h2 : 1 < s.size := by omega
                have h3 : s[0] ≠ 48 := fun e => hz ⟨by rw [e]; rfl, h2⟩
                simp [h2, h3]
            have HI := Hid.of hisN
            have hzc : ((s[0].toNat : Int) == 48) = false ∨ (((s[0].toNat : Int) == 48) = true ∧ ¬ (1 : Int) < (s.size : Int)) := by
              by_cases h3 : s[0].toNat = 48
              · right; exact ⟨by simp; omega, by omega⟩
              · left; simp; omega
            have hltN : ¬ (i : Int) < (s.size : Int) := by omega
            clear hz hr hisN hie hlt
            by_cases hm : max < 0
            · have HF := Hid.of (prs_rng (max := max) HN.out HI.out (by omega))
              rcases hzc with q1 | ⟨q1, q2⟩
              · go_wp2
                go_ret2
                rw [HF.out]
                exact ⟨rfl, Up.refl _⟩
              · go_wp2
                go_ret2
                rw [HF.out]
                exact ⟨rfl, Up.refl _⟩
            · obtain ⟨M, hM⟩ : ∃ M : Nat, max = (M : Int) := ⟨max.toNat, by omega⟩
              have HM := Hid.of (show Go.Lib.itoa max = Go.Lib.decDigits M by rw [hM]; exact itoa_nat M)
              have HW := Hid.of (RFormat_walk max h0 h1 w)
              have HMM := Hid.of hM
              clear hM
              rcases hzc with q1 | ⟨q1, q2⟩
              ·
                go_wp2_with fail
                refine HW.out.mono ?_
                rintro e w1 ⟨rfl, hu⟩
                have H1 := Hid.of hu
                clear hu
                rw [HM.out]
                obtain ⟨sb, hsb⟩ : ∃ sb : ByteArray, sb = ⟨(Go.Lib.decDigits M).toArray⟩ := ⟨_, rfl⟩
                rw [show vs (Go.Lib.decDigits M) = .string sb by rw [hsb]]
                have hdb : sb.data.toList = Go.Lib.decDigits M := by rw [hsb]
                have HD := Hid.of hdb
                have hsz : sb.size ≤ 20 := by
                  rw [Go.Lib.size_eq, hdb]; exact dig_len (by have := HMM.out; omega)
                clear hsb hdb
                dsimp only
                have HNM := Hid.of (show nv sb.data.toList = M ∧ isN sb.data.toList = true by rw [HD.out]; exact ⟨nv_dec M, isN_dec M⟩)
                by_cases hov : sb.size < s.size
                · have o1 : (sb.size : Int) < (s.size : Int) := by omega
                  have HF := Hid.of (prs_rng (max := max) HN.out HI.out (by
                    have := nv_longer HI.out (isN_all HNM.out.2) (by rw [← Go.Lib.size_eq, ← Go.Lib.size_eq]; exact hov) (isN_len HNM.out.2)
                    rw [HNM.out.1] at this; have := HMM.out; omega))
                  go_wp2
                  go_ret2
                  rw [HF.out]
                  exact ⟨rfl, H1.out⟩
                · have o1 : decide ((sb.size : Int) < (s.size : Int)) = false := by simp; omega
                  have key : (((s.size : Int) == (sb.size : Int)) = false ∧ nv s.data.toList ≤ M) ∨ (((s.size : Int) == (sb.size : Int)) = true ∧ (!Op.bytesLess s.toList sb.toList && !(s.toList == sb.toList)) = decide (M < nv s.data.toList)) := by
                    by_cases heq : s.size = sb.size
                    · right
                      refine ⟨by simp; omega, ?_⟩
                      rw [Go.Lib.toList_data, Go.Lib.toList_data, more_nv HI.out HNM.out.2 (by rw [← Go.Lib.size_eq, ← Go.Lib.size_eq]; exact heq), HNM.out.1]
                    · left
                      refine ⟨by simp; omega, ?_⟩
                      have := nv_longer HNM.out.2 (isN_all HI.out) (by rw [← Go.Lib.size_eq, ← Go.Lib.size_eq]; omega) (isN_len HI.out)
                      rw [HNM.out.1] at this; omega
                  rcases key with ⟨k1, k2⟩ | ⟨k1, k2⟩
                  · have HB := Hid.of k2
                    clear k2
                    go_wp2
                    go_loop [8, 9] (fun v8 v9 => ∃ i : Nat, v9 = .int .i64 (i : Int) ∧ i ≤ s.size ∧ v8 = .int .i64 (nv (s.data.toList.take i) : Int)) (fun _ v9 => s.size - (intOf v9).toNat)
                    case atStart => exact ⟨0, rfl, by omega, rfl⟩
                    case round =>
                      obtain ⟨j, rfl, hj, rfl⟩ := hrel
                      by_cases hlt : j < s.size
                      · have hlt' : (j : Int) < (s.size : Int) := by omega
                        have ht : s.data.toList.take (j + 1) = s.data.toList.take j ++ [s[j]] := by rw [sget' s j hlt]; exact take_succ0 (by rw [← HS.out]; exact hlt)
                        have hd := isD_iff.1 (show isD s[j] = true from List.all_eq_true.1 HA.out _ (by rw [sget' s j hlt]; exact List.getElem_mem _))
                        have hnx : nv (s.data.toList.take (j + 1)) = 10 * nv (s.data.toList.take j) + (s[j].toNat - 48) := by rw [ht, nv_snoc]
                        have hnl := nv_take s.data.toList (j + 1)
                        have hbd : 10 * nv (s.data.toList.take j) + (s[j].toNat - 48) ≤ 9223372036854775807 := by
                          have := HB.out; have := HMM.out; omega
                        have HX := Hid.of hnx
                        clear ht hnx hnl
                        generalize hq : nv (s.data.toList.take j) = q at *
                        have b1 : (48 : Int) ≤ (s[j].toNat : Int) := by omega
                        have b2 : (s[j].toNat : Int) ≤ 57 := by omega
                        clear hq
                        go_wp2
                        go_round
                        case rel => exact ⟨j + 1, by go_num, by omega, by rw [HX.out]; go_num⟩
                        case measure => simp [intOf]; omega
                      · have hje : j = s.size := by omega
                        have hlt' : ¬ (j : Int) < (s.size : Int) := by omega
                        have HF := Hid.of (prs_ok (max := max) HN.out HI.out (by have := HB.out; have := HMM.out; omega) (by have := HB.out; have := HMM.out; omega))
                        have HT := Hid.of (show nv (s.data.toList.take j) = nv s.data.toList by rw [hje, HS.out, List.take_length])
                        clear hje
                        go_wp2
                        go_ret2
                        rw [HF.out, HT.out]
                        exact ⟨rfl, H1.out⟩
                  · cases hk : decide (M < nv s.data.toList) with
                    | true =>
                      have HF := Hid.of (prs_rng (max := max) HN.out HI.out (by have := of_decide_eq_true hk; have := HMM.out; omega))
                      rw [hk] at k2
                      clear hk
                      go_wp2
                      go_ret2
                      rw [HF.out]
                      exact ⟨rfl, H1.out⟩
                    | false =>
                      have HB := Hid.of (show nv s.data.toList ≤ M by have := of_decide_eq_false hk; omega)
                      rw [hk] at k2
                      clear hk
                      go_wp2
                      go_loop [8, 9] (fun v8 v9 => ∃ i : Nat, v9 = .int .i64 (i : Int) ∧ i ≤ s.size ∧ v8 = .int .i64 (nv (s.data.toList.take i) : Int)) (fun _ v9 => s.size - (intOf v9).toNat)
                      case atStart => exact ⟨0, rfl, by omega, rfl⟩
                      case round =>
                        obtain ⟨j, rfl, hj, rfl⟩ := hrel
                        by_cases hlt : j < s.size
                        · have hlt' : (j : Int) < (s.size : Int) := by omega
                          have ht : s.data.toList.take (j + 1) = s.data.toList.take j ++ [s[j]] := by rw [sget' s j hlt]; exact take_succ0 (by rw [← HS.out]; exact hlt)
                          have hd := isD_iff.1 (show isD s[j] = true from List.all_eq_true.1 HA.out _ (by rw [sget' s j hlt]; exact List.getElem_mem _))
                          have hnx : nv (s.data.toList.take (j + 1)) = 10 * nv (s.data.toList.take j) + (s[j].toNat - 48) := by rw [ht, nv_snoc]
                          have hnl := nv_take s.data.toList (j + 1)
                          have hbd : 10 * nv (s.data.toList.take j) + (s[j].toNat - 48) ≤ 9223372036854775807 := by
                            have := HB.out; have := HMM.out; omega
                          have HX := Hid.of hnx
                          clear ht hnx hnl
                          generalize hq : nv (s.data.toList.take j) = q at *
                          have b1 : (48 : Int) ≤ (s[j].toNat : Int) := by omega
                          have b2 : (s[j].toNat : Int) ≤ 57 := by omega
                          clear hq
                          go_wp2
                          go_round
                          case rel => exact ⟨j + 1, by go_num, by omega, by rw [HX.out]; go_num⟩
                          case measure => simp [intOf]; omega
                        · have hje : j = s.size := by omega
                          have hlt' : ¬ (j : Int) < (s.size : Int) := by omega
                          have HF := Hid.of (prs_ok (max := max) HN.out HI.out (by have := HB.out; have := HMM.out; omega) (by have := HB.out; have := HMM.out; omega))
                          have HT := Hid.of (show nv (s.data.toList.take j) = nv s.data.toList by rw [hje, HS.out, List.take_length])
                          clear hje
                          go_wp2
                          go_ret2
                          rw [HF.out, HT.out]
                          exact ⟨rfl, H1.out⟩
              ·
                go_wp2_with fail
                refine HW.out.mono ?_
                rintro e w1 ⟨rfl, hu⟩
                have H1 := Hid.of hu
                clear hu
                rw [HM.out]
                obtain ⟨sb, hsb⟩ : ∃ sb : ByteArray, sb = ⟨(Go.Lib.decDigits M).toArray⟩ := ⟨_, rfl⟩
                rw [show vs (Go.Lib.decDigits M) = .string sb by rw [hsb]]
                have hdb : sb.data.toList = Go.Lib.decDigits M := by rw [hsb]
                have HD := Hid.of hdb
                have hsz : sb.size ≤ 20 := by
                  rw [Go.Lib.size_eq, hdb]; exact dig_len (by have := HMM.out; omega)
                clear hsb hdb
                dsimp only
                have HNM := Hid.of (show nv sb.data.toList = M ∧ isN sb.data.toList = true by rw [HD.out]; exact ⟨nv_dec M, isN_dec M⟩)
                by_cases hov : sb.size < s.size
                · have o1 : (sb.size : Int) < (s.size : Int) := by omega
                  have HF := Hid.of (prs_rng (max := max) HN.out HI.out (by
                    have := nv_longer HI.out (isN_all HNM.out.2) (by rw [← Go.Lib.size_eq, ← Go.Lib.size_eq]; exact hov) (isN_len HNM.out.2)
                    rw [HNM.out.1] at this; have := HMM.out; omega))
                  go_wp2
                  go_ret2
                  rw [HF.out]
                  exact ⟨rfl, H1.out⟩
                · have o1 : decide ((sb.size : Int) < (s.size : Int)) = false := by simp; omega
                  have key : (((s.size : Int) == (sb.size : Int)) = false ∧ nv s.data.toList ≤ M) ∨ (((s.size : Int) == (sb.size : Int)) = true ∧ (!Op.bytesLess s.toList sb.toList && !(s.toList == sb.toList)) = decide (M < nv s.data.toList)) := by
                    by_cases heq : s.size = sb.size
                    · right
                      refine ⟨by simp; omega, ?_⟩
                      rw [Go.Lib.toList_data, Go.Lib.toList_data, more_nv HI.out HNM.out.2 (by rw [← Go.Lib.size_eq, ← Go.Lib.size_eq]; exact heq), HNM.out.1]
                    · left
                      refine ⟨by simp; omega, ?_⟩
                      have := nv_longer HNM.out.2 (isN_all HI.out) (by rw [← Go.Lib.size_eq, ← Go.Lib.size_eq]; omega) (isN_len HI.out)
                      rw [HNM.out.1] at this; omega
                  rcases key with ⟨k1, k2⟩ | ⟨k1, k2⟩
                  · have HB := Hid.of k2
                    clear k2
                    go_wp2
                    go_loop [8, 9] (fun v8 v9 => ∃ i : Nat, v9 = .int .i64 (i : Int) ∧ i ≤ s.size ∧ v8 = .int .i64 (nv (s.data.toList.take i) : Int)) (fun _ v9 => s.size - (intOf v9).toNat)
                    case atStart => exact ⟨0, rfl, by omega, rfl⟩
                    case round =>
                      obtain ⟨j, rfl, hj, rfl⟩ := hrel
                      by_cases hlt : j < s.size
                      · have hlt' : (j : Int) < (s.size : Int) := by omega
                        have ht : s.data.toList.take (j + 1) = s.data.toList.take j ++ [s[j]] := by rw [sget' s j hlt]; exact take_succ0 (by rw [← HS.out]; exact hlt)
                        have hd := isD_iff.1 (show isD s[j] = true from List.all_eq_true.1 HA.out _ (by rw [sget' s j hlt]; exact List.getElem_mem _))
                        have hnx : nv (s.data.toList.take (j + 1)) = 10 * nv (s.data.toList.take j) + (s[j].toNat - 48) := by rw [ht, nv_snoc]
                        have hnl := nv_take s.data.toList (j + 1)
                        have hbd : 10 * nv (s.data.toList.take j) + (s[j].toNat - 48) ≤ 9223372036854775807 := by
                          have := HB.out; have := HMM.out; omega
                        have HX := Hid.of hnx
                        clear ht hnx hnl
                        generalize hq : nv (s.data.toList.take j) = q at *
                        have b1 : (48 : Int) ≤ (s[j].toNat : Int) := by omega
                        have b2 : (s[j].toNat : Int) ≤ 57 := by omega
                        clear hq
                        go_wp2
                        go_round
                        case rel => exact ⟨j + 1, by go_num, by omega, by rw [HX.out]; go_num⟩
                        case measure => simp [intOf]; omega
                      · have hje : j = s.size := by omega
                        have hlt' : ¬ (j : Int) < (s.size : Int) := by omega
                        have HF := Hid.of (prs_ok (max := max) HN.out HI.out (by have := HB.out; have := HMM.out; omega) (by have := HB.out; have := HMM.out; omega))
                        have HT := Hid.of (show nv (s.data.toList.take j) = nv s.data.toList by rw [hje, HS.out, List.take_length])
                        clear hje
                        go_wp2
                        go_ret2
                        rw [HF.out, HT.out]
                        exact ⟨rfl, H1.out⟩
                  · cases hk : decide (M < nv s.data.toList) with
                    | true =>
                      have HF := Hid.of (prs_rng (max := max) HN.out HI.out (by have := of_decide_eq_true hk; have := HMM.out; omega))
                      rw [hk] at k2
                      clear hk
                      go_wp2
                      go_ret2
                      rw [HF.out]
                      exact ⟨rfl, H1.out⟩
                    | false =>
                      have HB := Hid.of (show nv s.data.toList ≤ M by have := of_decide_eq_false hk; omega)
                      rw [hk] at k2
                      clear hk
                      go_wp2
                      go_loop [8, 9] (fun v8 v9 => ∃ i : Nat, v9 = .int .i64 (i : Int) ∧ i ≤ s.size ∧ v8 = .int .i64 (nv (s.data.toList.take i) : Int)) (fun _ v9 => s.size - (intOf v9).toNat)
                      case atStart => exact ⟨0, rfl, by omega, rfl⟩
                      case round =>
                        obtain ⟨j, rfl, hj, rfl⟩ := hrel
                        by_cases hlt : j < s.size
                        · have hlt' : (j : Int) < (s.size : Int) := by omega
                          have ht : s.data.toList.take (j + 1) = s.data.toList.take j ++ [s[j]] := by rw [sget' s j hlt]; exact take_succ0 (by rw [← HS.out]; exact hlt)
                          have hd := isD_iff.1 (show isD s[j] = true from List.all_eq_true.1 HA.out _ (by rw [sget' s j hlt]; exact List.getElem_mem _))
                          have hnx : nv (s.data.toList.take (j + 1)) = 10 * nv (s.data.toList.take j) + (s[j].toNat - 48) := by rw [ht, nv_snoc]
                          have hnl := nv_take s.data.toList (j + 1)
                          have hbd : 10 * nv (s.data.toList.take j) + (s[j].toNat - 48) ≤ 9223372036854775807 := by
                            have := HB.out; have := HMM.out; omega
                          have HX := Hid.of hnx
                          clear ht hnx hnl
                          generalize hq : nv (s.data.toList.take j) = q at *
                          have b1 : (48 : Int) ≤ (s[j].toNat : Int) := by omega
                          have b2 : (s[j].toNat : Int) ≤ 57 := by omega
                          clear hq
                          go_wp2
                          go_round
                          case rel => exact ⟨j + 1, by go_num, by omega, by rw [HX.out]; go_num⟩
                          case measure => simp [intOf]; omega
                        · have hje : j = s.size := by omega
                          have hlt' : ¬ (j : Int) < (s.size : Int) := by omega
                          have HF := Hid.of (prs_ok (max := max) HN.out HI.out (by have := HB.out; have := HMM.out; omega) (by have := HB.out; have := HMM.out; omega))
                          have HT := Hid.of (show nv (s.data.toList.take j) = nv s.data.toList by rw [hje, HS.out, List.take_length])
                          clear hje
                          go_wp2
                          go_ret2
                          rw [HF.out, HT.out]
                          exact ⟨rfl, H1.out⟩
end Go.Proofs.YtbdmpdjhgjidlaaGreatDoor
