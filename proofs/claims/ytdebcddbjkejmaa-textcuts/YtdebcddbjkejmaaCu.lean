import Derived.Test.YtdebcddbjkejmaaCt
namespace Go.Proofs.Ytdebcddbjkejmaa
open Go.RowKit TextNum

theorem cut_join {l : List UInt8} {i : Nat} (h : bk l i) : l.take (i + 1) ++ [10] ++ l.drop (i + 2) = l := by
  have h1 : i + 1 < l.length := (List.getElem?_eq_some_iff.1 h.2).1
  have h2 : l[i + 1] = 10 := (List.getElem?_eq_some_iff.1 h.2).2
  have h3 : l.drop (i + 1) = 10 :: l.drop (i + 2) := by rw [List.drop_eq_getElem_cons h1, h2]
  rw [List.append_assoc, List.singleton_append, ← h3, List.take_append_drop]
theorem cut_rest {l : List UInt8} {i : Nat} (hb : bk l i) (hno : ∀ j, i < j → ¬ bk l j) : ∀ j, ¬ bk (10 :: l.drop (i + 2)) j := by
  intro j hj
  have h1 : i + 1 < l.length := (List.getElem?_eq_some_iff.1 hb.2).1
  have h3 : l.drop (i + 1) = 10 :: l.drop (i + 2) := by
    rw [List.drop_eq_getElem_cons h1, (List.getElem?_eq_some_iff.1 hb.2).2]
  rw [← h3] at hj
  unfold bk at hj
  simp only [List.getElem?_drop] at hj
  exact hno (i + 1 + j) (by omega) ⟨hj.1, by rw [← hj.2, Nat.add_assoc]⟩

set_option maxRecDepth 100000 in
theorem cuts_walk (s : ByteArray) (w : World) : Calls Try.prog 5 #[.string s] w fun e w' => e = .returned (.bool true) ∧ Up w w' := by
  go_enter Try.func5, Try.ntmps5
  go_wp2_with fail
  refine (Cut_walk s w).mono ?_
  rintro e w1 ⟨r, rfl, hr, u1⟩
  have H1 := Hid.of u1
  clear u1
  by_cases hl : 1048576 < s.size
  · rcases hr with ⟨rfl, _⟩ | ⟨i, _, hle, _⟩
    · have hl' : (1048576 : Int) < (s.size : Int) := by omega
      dsimp only
      go_wp2
      go_ret
      exact ⟨by simp, H1.out⟩
    · omega
  · have hl' : ¬ (1048576 : Int) < (s.size : Int) := by omega
    have hl2 : decide ((1048576 : Int) < (s.size : Int)) = false := by simp; omega
    rcases hr with ⟨rfl, hno⟩ | ⟨i, rfl, hle, hi, hb, hno⟩
    · have HN := Hid.of (show ∀ j, ¬ bk s.data.toList j from hno.resolve_left hl)
      clear hno
      dsimp only
      go_wp2_with fail
      refine (blank_walk s (by omega) w1).mono ?_
      rintro e w2 ⟨b, rfl, hb, hw⟩
      obtain rfl := hw.symm
      obtain rfl : b = false := by
        cases b with
        | false => rfl
        | true => obtain ⟨j, hj⟩ := hb.1 rfl; exact absurd hj (HN.out j)
      clear hb
      dsimp only
      go_wp2
      go_ret
      exact ⟨by simp, H1.out⟩
    · have HB := Hid.of (And.intro hb hno)
      clear hb hno
      dsimp only
      go_wp2_with fail
      refine (blank_walk s (by omega) w1).mono ?_
      rintro e w2 ⟨b, rfl, hb, hw⟩
      obtain rfl := hw.symm
      obtain rfl : b = true := hb.2 ⟨i, HB.out.1⟩
      clear hb
      obtain ⟨a, ha⟩ : ∃ a, a = s.extract 0 (i + 1) := ⟨_, rfl⟩
      obtain ⟨c, hc⟩ : ∃ c, c = s.extract (i + 2) s.size := ⟨_, rfl⟩
      rw [← ha, ← hc]
      have hda : a.data.toList = s.data.toList.take (i + 1) := by rw [ha, Go.Lib.extract_data]; simp
      have hdc : c.data.toList = s.data.toList.drop (i + 2) := by
        rw [hc, Go.Lib.extract_data, List.take_of_length_le (by rw [List.length_drop, ← Go.Lib.size_eq]; omega)]
      have hsa : a.size = i + 1 := by rw [Go.Lib.size_eq, hda, List.length_take, ← Go.Lib.size_eq]; omega
      have hsc : c.size = s.size - (i + 2) := by rw [Go.Lib.size_eq, hdc, List.length_drop, ← Go.Lib.size_eq]
      have hap : 0 < a.size := by omega
      have hne : a.toList.isEmpty = false := by rw [Go.Lib.toList_data, hda]; cases h : s.data.toList with
        | nil => have h9 := Go.Lib.size_eq s; rw [h, List.length_nil] at h9; omega
        | cons x t => simp
      have hia : i < a.size := by omega
      have hlast : (a[i].toNat : Int) = 10 := by
        have h1 : a.data.toList[i]? = some 10 := by
          rw [hda, List.getElem?_take, if_pos (by omega)]; exact HB.out.1.1
        have h2 : a.data.toList[i]? = some a[i] := by rw [sget' a i hia, List.getElem?_eq_getElem]
        rw [h2, Option.some.injEq] at h1
        rw [h1]; rfl
      have happ : (a ++ ⟨#[10]⟩ ++ c) = s := by
        rw [← Go.Lib.mk_data (a ++ ⟨#[10]⟩ ++ c), ← Go.Lib.mk_data s]
        congr 2
        simp only [ByteArray.data_append, Array.toList_append]
        rw [hda, hdc]
        exact cut_join HB.out.1
      have heq : ((a ++ ⟨#[10]⟩ ++ c).toList == s.toList) = true := by rw [happ]; simp
      have HR := Hid.of (show (⟨#[10]⟩ ++ c : ByteArray).data.toList = 10 :: s.data.toList.drop (i + 2) by
        simp only [ByteArray.data_append, Array.toList_append]
        rw [hdc]; rfl)
      have HZ := Hid.of (show (⟨#[10]⟩ ++ c : ByteArray).size ≤ 1048600 by
        rw [Go.Lib.size_eq]
        simp only [ByteArray.data_append, Array.toList_append]
        rw [hdc]; simp; omega)
      clear ha hc hda hdc happ
      dsimp only
      go_wp2_with fail
      generalize ({ data := #[10] } ++ c : ByteArray) = t at *
      refine (blank_walk t HZ.out w1).mono ?_
      rintro e w2 ⟨b, rfl, hb, hw⟩
      obtain rfl := hw.symm
      rw [HR.out] at hb
      obtain rfl : b = false := by
        cases b with
        | false => rfl
        | true => obtain ⟨j, hj⟩ := hb.1 rfl; exact absurd hj (cut_rest HB.out.1 HB.out.2 j)
      clear hb
      dsimp only
      go_wp2
      go_ret
      exact ⟨by simp, H1.out⟩
end Go.Proofs.Ytdebcddbjkejmaa
