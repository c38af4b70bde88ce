import Derived.Test.YtabpgpbcnadgcaaGreatDoorLb
import Derived.Test.YtabpgpbcnadgcaaGreatDoorLc
import Derived.Test.YtabpgpbcnadgcaaGreatDoorLa
namespace Go.Proofs.YtabpgpbcnadgcaaGreatDoor
open Go.RowKit Go.Shelf TextNum
theorem trm_front {b : UInt8} {l : List UInt8} (h : blk b = true) : trm (b :: l) = trm l := by
  rw [trm_def, trm_def, List.reverse_cons, List.dropWhile_append]
  split
  · rename_i he
    have e : l.reverse.dropWhile blk = [] := by simpa using he
    rw [e, List.dropWhile_cons, h]
    rfl
  · rw [List.reverse_append]
    show (b :: (l.reverse.dropWhile blk).reverse).dropWhile blk = _
    rw [List.dropWhile_cons, h]
    rfl
theorem trm_back {b : UInt8} {l : List UInt8} (h : blk b = true) : trm (l ++ [b]) = trm l := by
  rw [trm_def, trm_def, List.reverse_append]
  show ((b :: l.reverse).dropWhile blk).reverse.dropWhile blk = _
  rw [List.dropWhile_cons, h]
  rfl
theorem blk_iff (b : UInt8) : blk b = (b == 32 || b == 9) := by
  unfold blk bks
  simp [List.contains, List.elem]
  cases (b == 32) <;> cases (b == 9) <;> rfl
theorem blk_yes32 {x : UInt8} (h : ((x.toNat : Int) == 32) = true) : blk x = true := by
  have h1 := eq_of_beq h
  have h2 : x = 32 := UInt8.toNat_inj.1 (by show x.toNat = 32; omega)
  rw [h2]
  decide
theorem blk_yes9 {x : UInt8} (h : ((x.toNat : Int) == 9) = true) : blk x = true := by
  have h1 := eq_of_beq h
  have h2 : x = 9 := UInt8.toNat_inj.1 (by show x.toNat = 9; omega)
  rw [h2]
  decide
theorem blk_no {x : UInt8} (h : ((x.toNat : Int) == 32) = false) (h9 : ((x.toNat : Int) == 9) = false) : blk x = false := by
  rw [blk_iff]
  rw [beq_eq_false_iff_ne] at h h9
  have a : (x == 32) = false := by rw [beq_eq_false_iff_ne]; rintro rfl; exact h rfl
  have b : (x == 9) = false := by rw [beq_eq_false_iff_ne]; rintro rfl; exact h9 rfl
  rw [a, b]
  rfl
theorem extr_drop (s : ByteArray) (k : Nat) : (s.extract k s.size).data.toList = s.data.toList.drop k := by
  have hz : s.size = s.data.toList.length := Go.Lib.size_eq s
  rw [ByteArray.data_extract, Array.toList_extract, List.extract_eq_drop_take', List.take_of_length_le (by rw [← hz]; exact Nat.le_refl _)]
theorem extr_take (s : ByteArray) (k : Nat) : (s.extract 0 k).data.toList = s.data.toList.take k := by
  rw [ByteArray.data_extract, Array.toList_extract, List.extract_eq_drop_take', List.drop_zero]
theorem emp_no {s : ByteArray} (h : 0 < s.size) : s.toList.isEmpty = false := by
  rw [Go.Lib.toList_data]
  rw [Go.Lib.size_eq] at h
  cases hl : s.data.toList with
  | nil => rw [hl] at h; simp at h
  | cons a b => rfl
theorem emp_yes {s : ByteArray} (h : s.size = 0) : s.toList.isEmpty = true := by
  rw [Go.Lib.toList_data]
  rw [Go.Lib.size_eq] at h
  rw [List.eq_nil_of_length_eq_zero h]
  rfl
set_option maxRecDepth 100000 in
set_option maxHeartbeats 2000000 in
theorem Rtrim_walk (s : ByteArray) (hs : s.size ≤ 1099511627776) (w : World) : Calls Tryz.prog 91 #[.string s] w fun e w' => e = .returned (vs (trm s.data.toList)) ∧ w' = w := by
  obtain ⟨r, hr⟩ : ∃ r, trm s.data.toList = r := ⟨_, rfl⟩
  have HR := Hid.of hr
  rw [hr]
  clear hr
  go_enter Tryz.func91, Tryz.ntmps91
  go_wp2
  go_loopw [0] (fun v0 wr => ∃ s' : ByteArray, v0 = .string s' ∧ s'.size ≤ 1099511627776 ∧ Hid (wr = w ∧ trm s'.data.toList = r)) (fun v0 _ => szOf v0)
  case atStart => exact ⟨s, rfl, hs, Hid.of ⟨rfl, HR.out⟩⟩
  case round =>
    obtain ⟨s', rfl, hs', hQ⟩ := hrel
    have HQ := Hid.of hQ.out
    clear hQ HR
    have HZ := Hid.of (Go.Lib.size_eq s')
    by_cases h0 : 0 < s'.size
    · have h0z : (0 : Int) < (s'.size : Int) := by omega
      have hem : s'.toList.isEmpty = false := emp_no (by omega)
      have hg := sget' s' 0 h0
      have HE0 : s'.data.toList = s'.data.toList[0]'(by have := HZ.out; omega) :: s'.data.toList.drop 1 := by
        rw [List.getElem_cons_drop, List.drop_zero]
      generalize s'.data.toList[0]'(by have := HZ.out; omega) = x at hg HE0
      have HE := Hid.of HE0
      clear HE0
      cases h32 : ((x.toNat : Int) == 32) with
      | true =>
        have HBk := Hid.of (blk_yes32 h32)
        have HD := Hid.of (show trm (s'.extract 1 s'.size).data.toList = r by
          rw [extr_drop]
          have h1 := HQ.out.2
          rw [HE.out, trm_front HBk.out] at h1
          exact h1)
        have HSz := Hid.of (show (s'.extract 1 s'.size).size = s'.size - 1 by rw [ByteArray.size_extract]; omega)
        go_wp2
        go_roundw
        all_goals first
          | exact ⟨_, rfl, by rw [HSz.out]; omega, Hid.of ⟨HQ.out.1, HD.out⟩⟩
          | (show (s'.extract 1 s'.size).size < s'.size; rw [HSz.out]; omega)
          | (simp [szOf]; omega)
      | false =>
        cases h9 : ((x.toNat : Int) == 9) with
        | true =>
          have HBk := Hid.of (blk_yes9 h9)
          have HD := Hid.of (show trm (s'.extract 1 s'.size).data.toList = r by
            rw [extr_drop]
            have h1 := HQ.out.2
            rw [HE.out, trm_front HBk.out] at h1
            exact h1)
          have HSz := Hid.of (show (s'.extract 1 s'.size).size = s'.size - 1 by rw [ByteArray.size_extract]; omega)
          go_wp2
          go_roundw
          all_goals first
            | exact ⟨_, rfl, by rw [HSz.out]; omega, Hid.of ⟨HQ.out.1, HD.out⟩⟩
            | (show (s'.extract 1 s'.size).size < s'.size; rw [HSz.out]; omega)
            | (simp [szOf]; omega)
        | false =>
          have HD0 := Hid.of (show ∀ y, s'.data.toList.head? = some y → blk y = false by
            intro y hy
            rw [HE.out] at hy
            injection hy with hy
            rw [← hy]
            exact blk_no h32 h9)
          go_wp2
          go_loopw [0] (fun v0 wr => ∃ s2 : ByteArray, v0 = .string s2 ∧ s2.size ≤ 1099511627776 ∧ Hid (wr = w ∧ trm s2.data.toList = r ∧ ∀ x, s2.data.toList.head? = some x → blk x = false)) (fun v0 _ => szOf v0)
          case atStart => exact ⟨s', rfl, hs', Hid.of ⟨HQ.out.1, HQ.out.2, HD0.out⟩⟩
          case round =>
            obtain ⟨s2, rfl, hs2, hQ2⟩ := hrel
            have HQ2 := Hid.of hQ2.out
            clear hQ2
            by_cases h0 : 0 < s2.size
            · have h0z : (0 : Int) < (s2.size : Int) := by omega
              have hem : s2.toList.isEmpty = false := emp_no (by omega)
              have hg := sget' s2 (s2.size - 1) (by omega)
              have HZ2 := Hid.of (Go.Lib.size_eq s2)
              have HE0 : s2.data.toList = s2.data.toList.take (s2.size - 1) ++ [s2.data.toList[s2.size - 1]'(by have := HZ2.out; omega)] := by
                rw [← List.take_succ_eq_append_getElem, List.take_of_length_le (by have := HZ2.out; omega)]
              generalize s2.data.toList[s2.size - 1]'(by have := HZ2.out; omega) = x at hg HE0
              have HE := Hid.of HE0
              clear HE0
              have hsub : (s2.size : Int) - 1 = ((s2.size - 1 : Nat) : Int) := by omega
              cases h32 : ((x.toNat : Int) == 32) with
              | true =>
                have HBk := Hid.of (blk_yes32 h32)
                have HD := Hid.of (show trm (s2.extract 0 (s2.size - 1)).data.toList = r by
                  rw [extr_take]
                  have h1 := HQ2.out.2.1
                  rw [HE.out, trm_back HBk.out] at h1
                  exact h1)
                have HH := Hid.of (show ∀ x, (s2.extract 0 (s2.size - 1)).data.toList.head? = some x → blk x = false by
                  intro y hy
                  rw [extr_take] at hy
                  refine HQ2.out.2.2 y ?_
                  rw [HE.out]
                  cases hl : s2.data.toList.take (s2.size - 1) with
                  | nil => rw [hl] at hy; cases hy
                  | cons a b => rw [hl] at hy; exact hy)
                have HSz := Hid.of (show (s2.extract 0 (s2.size - 1)).size = s2.size - 1 by rw [ByteArray.size_extract]; omega)
                go_wp2
                go_roundw
                all_goals first
                  | exact ⟨_, rfl, by rw [HSz.out]; omega, Hid.of ⟨HQ2.out.1, HD.out, HH.out⟩⟩
                  | (show s2.size - 0 = 0; omega)
                  | (show (s2.extract 0 (s2.size - 1)).size < s2.size; rw [HSz.out]; omega)
                  | (simp [szOf]; omega)
              | false =>
                cases h9 : ((x.toNat : Int) == 9) with
                | true =>
                  have HBk := Hid.of (blk_yes9 h9)
                  have HD := Hid.of (show trm (s2.extract 0 (s2.size - 1)).data.toList = r by
                    rw [extr_take]
                    have h1 := HQ2.out.2.1
                    rw [HE.out, trm_back HBk.out] at h1
                    exact h1)
                  have HH := Hid.of (show ∀ x, (s2.extract 0 (s2.size - 1)).data.toList.head? = some x → blk x = false by
                    intro y hy
                    rw [extr_take] at hy
                    refine HQ2.out.2.2 y ?_
                    rw [HE.out]
                    cases hl : s2.data.toList.take (s2.size - 1) with
                    | nil => rw [hl] at hy; cases hy
                    | cons a b => rw [hl] at hy; exact hy)
                  have HSz := Hid.of (show (s2.extract 0 (s2.size - 1)).size = s2.size - 1 by rw [ByteArray.size_extract]; omega)
                  go_wp2
                  go_roundw
                  all_goals first
                    | exact ⟨_, rfl, by rw [HSz.out]; omega, Hid.of ⟨HQ2.out.1, HD.out, HH.out⟩⟩
                    | (show s2.size - 0 = 0; omega)
                    | (show (s2.extract 0 (s2.size - 1)).size < s2.size; rw [HSz.out]; omega)
                    | (simp [szOf]; omega)
                | false =>
                  have HT := Hid.of (show s2.data.toList = r by
                    have h1 := HQ2.out.2.1
                    rw [trm_id ⟨HQ2.out.2.2, fun y hy => ?_⟩] at h1
                    · exact h1
                    · rw [HE.out, List.getLast?_concat] at hy
                      injection hy with hy
                      rw [← hy]
                      exact blk_no h32 h9)
                  go_wp2
                  go_ret
                  rw [← HT.out, vs_data']
                  exact ⟨rfl, HQ2.out.1⟩
            · have h0z : ¬ (0 : Int) < (s2.size : Int) := by omega
              have hem : s2.toList.isEmpty = true := emp_yes (by omega)
              have HT := Hid.of (show s2.data.toList = r by
                have h1 := HQ2.out.2.1
                have h2 : s2.data.toList = [] := List.eq_nil_of_length_eq_zero (by rw [← Go.Lib.size_eq]; omega)
                rw [h2] at h1 ⊢
                exact h1)
              go_wp2
              go_ret
              rw [← HT.out, vs_data']
              exact ⟨rfl, HQ2.out.1⟩
    · have h0z : ¬ (0 : Int) < (s'.size : Int) := by omega
      have hem : s'.toList.isEmpty = true := emp_yes (by omega)
      have HD0 := Hid.of (show ∀ y, s'.data.toList.head? = some y → blk y = false by
        intro y hy
        rw [List.eq_nil_of_length_eq_zero (show s'.data.toList.length = 0 by have := HZ.out; omega)] at hy
        cases hy)
      go_wp2
      go_loopw [0] (fun v0 wr => ∃ s2 : ByteArray, v0 = .string s2 ∧ s2.size ≤ 1099511627776 ∧ Hid (wr = w ∧ trm s2.data.toList = r ∧ ∀ x, s2.data.toList.head? = some x → blk x = false)) (fun v0 _ => szOf v0)
      case atStart => exact ⟨s', rfl, hs', Hid.of ⟨HQ.out.1, HQ.out.2, HD0.out⟩⟩
      case round =>
        obtain ⟨s2, rfl, hs2, hQ2⟩ := hrel
        have HQ2 := Hid.of hQ2.out
        clear hQ2
        by_cases h0 : 0 < s2.size
        · have h0z : (0 : Int) < (s2.size : Int) := by omega
          have hem : s2.toList.isEmpty = false := emp_no (by omega)
          have hg := sget' s2 (s2.size - 1) (by omega)
          have HZ2 := Hid.of (Go.Lib.size_eq s2)
          have HE0 : s2.data.toList = s2.data.toList.take (s2.size - 1) ++ [s2.data.toList[s2.size - 1]'(by have := HZ2.out; omega)] := by
            rw [← List.take_succ_eq_append_getElem, List.take_of_length_le (by have := HZ2.out; omega)]
          generalize s2.data.toList[s2.size - 1]'(by have := HZ2.out; omega) = x at hg HE0
          have HE := Hid.of HE0
          clear HE0
          have hsub : (s2.size : Int) - 1 = ((s2.size - 1 : Nat) : Int) := by omega
          cases h32 : ((x.toNat : Int) == 32) with
          | true =>
            have HBk := Hid.of (blk_yes32 h32)
            have HD := Hid.of (show trm (s2.extract 0 (s2.size - 1)).data.toList = r by
              rw [extr_take]
              have h1 := HQ2.out.2.1
              rw [HE.out, trm_back HBk.out] at h1
              exact h1)
            have HH := Hid.of (show ∀ x, (s2.extract 0 (s2.size - 1)).data.toList.head? = some x → blk x = false by
              intro y hy
              rw [extr_take] at hy
              refine HQ2.out.2.2 y ?_
              rw [HE.out]
              cases hl : s2.data.toList.take (s2.size - 1) with
              | nil => rw [hl] at hy; cases hy
              | cons a b => rw [hl] at hy; exact hy)
            have HSz := Hid.of (show (s2.extract 0 (s2.size - 1)).size = s2.size - 1 by rw [ByteArray.size_extract]; omega)
            go_wp2
            go_roundw
            all_goals first
              | exact ⟨_, rfl, by rw [HSz.out]; omega, Hid.of ⟨HQ2.out.1, HD.out, HH.out⟩⟩
              | (show s2.size - 0 = 0; omega)
              | (show (s2.extract 0 (s2.size - 1)).size < s2.size; rw [HSz.out]; omega)
              | (simp [szOf]; omega)
          | false =>
            cases h9 : ((x.toNat : Int) == 9) with
            | true =>
              have HBk := Hid.of (blk_yes9 h9)
              have HD := Hid.of (show trm (s2.extract 0 (s2.size - 1)).data.toList = r by
                rw [extr_take]
                have h1 := HQ2.out.2.1
                rw [HE.out, trm_back HBk.out] at h1
                exact h1)
              have HH := Hid.of (show ∀ x, (s2.extract 0 (s2.size - 1)).data.toList.head? = some x → blk x = false by
                intro y hy
                rw [extr_take] at hy
                refine HQ2.out.2.2 y ?_
                rw [HE.out]
                cases hl : s2.data.toList.take (s2.size - 1) with
                | nil => rw [hl] at hy; cases hy
                | cons a b => rw [hl] at hy; exact hy)
              have HSz := Hid.of (show (s2.extract 0 (s2.size - 1)).size = s2.size - 1 by rw [ByteArray.size_extract]; omega)
              go_wp2
              go_roundw
              all_goals first
                | exact ⟨_, rfl, by rw [HSz.out]; omega, Hid.of ⟨HQ2.out.1, HD.out, HH.out⟩⟩
                | (show s2.size - 0 = 0; omega)
                | (show (s2.extract 0 (s2.size - 1)).size < s2.size; rw [HSz.out]; omega)
                | (simp [szOf]; omega)
            | false =>
              have HT := Hid.of (show s2.data.toList = r by
                have h1 := HQ2.out.2.1
                rw [trm_id ⟨HQ2.out.2.2, fun y hy => ?_⟩] at h1
                · exact h1
                · rw [HE.out, List.getLast?_concat] at hy
                  injection hy with hy
                  rw [← hy]
                  exact blk_no h32 h9)
              go_wp2
              go_ret
              rw [← HT.out, vs_data']
              exact ⟨rfl, HQ2.out.1⟩
        · have h0z : ¬ (0 : Int) < (s2.size : Int) := by omega
          have hem : s2.toList.isEmpty = true := emp_yes (by omega)
          have HT := Hid.of (show s2.data.toList = r by
            have h1 := HQ2.out.2.1
            have h2 : s2.data.toList = [] := List.eq_nil_of_length_eq_zero (by rw [← Go.Lib.size_eq]; omega)
            rw [h2] at h1 ⊢
            exact h1)
          go_wp2
          go_ret
          rw [← HT.out, vs_data']
          exact ⟨rfl, HQ2.out.1⟩
end Go.Proofs.YtabpgpbcnadgcaaGreatDoor
namespace Go.Proofs.YtabpgpbcnadgcaaGreatDoor
open Go.RowKit Go.Shelf TextNum
def clw : ByteArray := ⟨#[99, 111, 110, 116, 101, 110, 116, 45, 108, 101, 110, 103, 116, 104]⟩
def tew : ByteArray := ⟨#[116, 114, 97, 110, 115, 102, 101, 114, 45, 101, 110, 99, 111, 100, 105, 110, 103]⟩
theorem kep_lws (f : FD) : kep f = !(lws f.n.data.toList == clw.data.toList || lws f.n.data.toList == tew.data.toList) := by
  unfold kep kdf kdp
  generalize lws f.n.data.toList = x
  by_cases h1 : x = lws (kdT.getD 0 (⟨#[]⟩, 0)).1.data.toList
  · subst h1; decide +kernel
  · by_cases h2 : x = lws (kdT.getD 1 (⟨#[]⟩, 0)).1.data.toList
    · subst h2; decide +kernel
    · by_cases h3 : x = lws (kdT.getD 2 (⟨#[]⟩, 0)).1.data.toList
      · subst h3; decide +kernel
      · by_cases h4 : x = lws (kdT.getD 3 (⟨#[]⟩, 0)).1.data.toList
        · subst h4; decide +kernel
        · have e3 : lws (kdT.getD 2 (⟨#[]⟩, 0)).1.data.toList = tew.data.toList := by decide +kernel
          have e4 : lws (kdT.getD 3 (⟨#[]⟩, 0)).1.data.toList = clw.data.toList := by decide +kernel
          have hf : kdT.find? (fun p => lws p.1.data.toList == x) = none := by
            rw [List.find?_eq_none]
            intro p hp
            rw [beq_iff_eq]
            intro e
            have hk : kdT = [kdT.getD 0 (⟨#[]⟩, 0), kdT.getD 1 (⟨#[]⟩, 0), kdT.getD 2 (⟨#[]⟩, 0), kdT.getD 3 (⟨#[]⟩, 0)] := rfl
            rw [hk] at hp
            simp only [List.mem_cons, List.not_mem_nil, or_false] at hp
            rcases hp with rfl | rfl | rfl | rfl
            · exact h1 e.symm
            · exact h2 e.symm
            · exact h3 e.symm
            · exact h4 e.symm
          rw [e3] at h3
          rw [e4] at h4
          rw [hf]
          simp [h3, h4]
/-- the fields that must come back -/
def tld (fs : List FD) (len : Int) : List FD := if 0 ≤ len then pfs fs ++ [lnf len.toNat] else pfs fs
set_option maxRecDepth 100000 in
set_option maxHeartbeats 2000000 in
theorem Rprinted_walk (a : Option Addr) (fs : List FD) (c : Nat) (len : Int) (w : World) (h : FdL w a fs c) (hl : szs fs ≤ 1099511627776) (hlen : len ≤ 1099511627776) (hlen0 : -1 ≤ len) :
    Calls Tryz.prog 43 #[.slice a fs.length c, .int .i64 len] w fun e w' => (∃ a2 c2, e = .returned (.slice a2 (tld fs len).length c2) ∧ Hid (RfO w' w.heap.size a2 (tld fs len) c2)) ∧ Up w w' := by
  have HF := Hid.of h
  have hcap := h.cap
  have hsl := szs_len fs
  have HZ := Hid.of (fun i => Nat.le_trans (szs_take fs i) hl)
  clear h hl
  have hfl : fs.length ≤ 1099511627776 := by have := HZ.out fs.length; rw [List.take_length] at this; omega
  clear hsl
  go_enter Tryz.func43, Tryz.ntmps43
  go_wp2
  go_loopw [5, 6] (fun v5 v6 wr => ∃ i : Nat, v6 = .int .i64 (i : Int) ∧ i ≤ fs.length ∧ ∃ q a7 c7, v5 = .slice a7 q c7 ∧ q ≤ i ∧ Hid (RfO wr w.heap.size a7 (pfs (fs.take i)) c7 ∧ Up w wr ∧ (pfs (fs.take i)).length = q)) (fun _ v6 _ => fs.length - (intOf v6).toNat)
  case atStart => exact ⟨0, rfl, Nat.zero_le _, 0, none, 0, rfl, Nat.le_refl _, Hid.of ⟨World.ownsRow_nil _ _ _ _, Up.refl _, rfl⟩⟩
  case round =>
    obtain ⟨i, rfl, hi, q, a7, c7, rfl, hqi, hU⟩ := hrel
    have HQ := Hid.of hU.out
    clear hU
    by_cases hil : i < fs.length
    · have hilz : (i : Int) < (fs.length : Int) := by omega
      obtain ⟨b, off, rfl, k1, k2⟩ := HF.out.cells i hil
      have HT := Hid.of (List.take_succ_eq_append_getElem hil)
      obtain ⟨f, hf⟩ : ∃ f, fs[i] = f := ⟨_, rfl⟩
      rw [hf] at k1 k2 HT
      have HK1 := Hid.of k1
      have HK2 := Hid.of k2
      have h5 := HZ.out (i + 1)
      rw [HT.out, szs_snoc] at h5
      unfold szf at h5
      have hfv : f.v.size ≤ 1099511627776 := by omega
      have hfn : f.n.size ≤ 1099511627776 := by omega
      have HLn := Hid.of HQ.out.2.2
      have k3 := HQ.out.2.1.cell k1
      clear hf k1 k2 h5
      go_wp2_with (with_reducible show wpList _ _ _ ({ dst := _, op := Op.indexAddr 54 _ _, type := _, pos := _, after := _, guard := _ } :: _) _ _; refine Shut.out ?_)
      show wpList _ _ _ _ _ _
      refine wpList_val7 (.pointer (some ⟨b, off + i * 2, none⟩)) rfl (exec_idxRf i hil rfl rfl rfl) ?_
      simp only [Act.put, List.setIfInBounds_toArray, List.set_cons_zero, List.set_cons_succ]
      go_wp2_with fail
      refine (lowerL_walk f.n wr hfn).mono ?_
      rintro e w4 ⟨rfl, u5⟩
      have HU4 := Hid.of (HQ.out.2.1.trans u5)
      have HO4 := Hid.of (ow_up HQ.out.1 u5)
      clear u5 HQ k3
      have HNm0 : (⟨(lws f.n.data.toList).toArray⟩ : ByteArray).data.toList = lws f.n.data.toList := rfl
      generalize (⟨(lws f.n.data.toList).toArray⟩ : ByteArray) = nm at HNm0 ⊢
      have HNm := Hid.of HNm0
      clear HNm0
      dsimp only
      have e1 : (nm.toList == [99, 111, 110, 116, 101, 110, 116, 45, 108, 101, 110, 103, 116, 104]) = (nm.data.toList == clw.data.toList) := by rw [Go.Lib.toList_data]; rfl
      have e2 : (nm.toList == [116, 114, 97, 110, 115, 102, 101, 114, 45, 101, 110, 99, 111, 100, 105, 110, 103]) = (nm.data.toList == tew.data.toList) := by rw [Go.Lib.toList_data]; rfl
      cases h3 : (nm.data.toList == clw.data.toList) with
      | true =>
        rw [h3] at e1
        clear e2
        have HS7 := Hid.of (show pfs (fs.take (i + 1)) = pfs (fs.take i) by rw [HT.out, pfs_no (by rw [kep_lws, ← HNm.out]; simp [h3])])
        have HO8 := Hid.of (show RfO w4 w.heap.size a7 (pfs (fs.take (i + 1))) c7 by rw [HS7.out]; exact HO4.out)
        have HL8 := Hid.of (show (pfs (fs.take (i + 1))).length = q by rw [HS7.out]; exact HLn.out)
        go_wp2
        go_roundw
        all_goals first
          | exact ⟨i + 1, by go_num, by omega, q, a7, c7, rfl, by omega, Hid.of ⟨HO8.out, HU4.out, HL8.out⟩⟩
          | (simp [intOf]; omega)
      | false =>
        rw [h3] at e1
        cases h4 : (nm.data.toList == tew.data.toList) with
        | true =>
          rw [h4] at e2
          have HS7 := Hid.of (show pfs (fs.take (i + 1)) = pfs (fs.take i) by rw [HT.out, pfs_no (by rw [kep_lws, ← HNm.out]; simp [h3, h4])])
          have HO8 := Hid.of (show RfO w4 w.heap.size a7 (pfs (fs.take (i + 1))) c7 by rw [HS7.out]; exact HO4.out)
          have HL8 := Hid.of (show (pfs (fs.take (i + 1))).length = q by rw [HS7.out]; exact HLn.out)
          go_wp2
          go_roundw
          all_goals first
            | exact ⟨i + 1, by go_num, by omega, q, a7, c7, rfl, by omega, Hid.of ⟨HO8.out, HU4.out, HL8.out⟩⟩
            | (simp [intOf]; omega)
        | false =>
          rw [h4] at e2
          have HT2 := Hid.of (show pfs (fs.take (i + 1)) = pfs (fs.take i) ++ [tfd f] by rw [HT.out, pfs_yes (by rw [kep_lws, ← HNm.out]; simp [h3, h4])])
          have HL7 := Hid.of (show (pfs (fs.take (i + 1))).length = q + 1 by rw [HT2.out, List.length_append, HLn.out]; rfl)
          go_wp2
          refine wp_region_held_drew (S := fun w2 => Up w w2) (by kernel_rfl) HU4.out.drew (fun hS => ?_)
          refine wpAnyH_take (i := 0) (oi := { dst := some 26, op := Go.Op.move (Go.Operand.tmp 5), type := 54, pos := "print.go:128", after := #[], guard := none }) (v := .slice a7 q c7) rfl (by kernel_rfl) (by kernel_rfl) (by kernel_rfl) (fun _ _ _ h => h) (Or.inl ⟨by kernel_rfl, ?_⟩) hS ?_
          · intro w5 hSw
            clear hSw hS
            go_simp
          simp only [Act.put, List.setIfInBounds_toArray, List.set_cons_zero, List.set_cons_succ]
          refine wpAnyH_take (i := 1) (oi := { dst := some 27, op := Go.Op.move (Go.Operand.tmp 0), type := 54, pos := "print.go:128", after := #[], guard := none }) (v := .slice (some ⟨b, off, none⟩) fs.length c) rfl (by kernel_rfl) (by kernel_rfl) (by kernel_rfl) (fun _ _ _ h => h) (Or.inl ⟨by kernel_rfl, ?_⟩) hS ?_
          · intro w5 hSw
            clear hSw hS
            go_simp
          simp only [Act.put, List.setIfInBounds_toArray, List.set_cons_zero, List.set_cons_succ]
          refine wpAnyH_take (i := 2) (oi := { dst := some 28, op := Go.Op.move (Go.Operand.tmp 6), type := 3, pos := "print.go:128", after := #[], guard := none }) (v := .int .i64 (i : Int)) rfl (by kernel_rfl) (by kernel_rfl) (by kernel_rfl) (fun _ _ _ h => h) (Or.inl ⟨by kernel_rfl, ?_⟩) hS ?_
          · intro w5 hSw
            clear hSw hS
            go_simp
          simp only [Act.put, List.setIfInBounds_toArray, List.set_cons_zero, List.set_cons_succ]
          refine wpAnyH_take (i := 3) (oi := { dst := some 29, op := Go.Op.indexAddr 54 (Go.Operand.tmp 27) (Go.Operand.tmp 28), type := 0, pos := "print.go:128", after := #[{ on := 1, ground := Go.Ground.data }, { on := 2, ground := Go.Ground.data }], guard := none }) (v := .pointer (some ⟨b, off + i * 2, none⟩)) rfl (by kernel_rfl) (by kernel_rfl) (by kernel_rfl) (fun _ _ _ h => h) (Or.inl ⟨by kernel_rfl, ?_⟩) hS ?_
          · intro w5 hSw
            clear hSw hS
            exact exec_idxRf i hil rfl rfl rfl
          simp only [Act.put, List.setIfInBounds_toArray, List.set_cons_zero, List.set_cons_succ]
          refine wpAnyH_take (i := 4) (oi := { dst := some 30, op := Go.Op.fieldAddr 102 (Go.Operand.tmp 29) 0, type := 0, pos := "print.go:128", after := #[{ on := 3, ground := Go.Ground.data }], guard := none }) (v := .pointer (some ⟨b, off + i * 2, none⟩)) rfl (by kernel_rfl) (by kernel_rfl) (by kernel_rfl) (fun _ _ _ h => h) (Or.inl ⟨by kernel_rfl, ?_⟩) hS ?_
          · intro w5 hSw
            clear hSw hS
            go_simp
          simp only [Act.put, List.setIfInBounds_toArray, List.set_cons_zero, List.set_cons_succ]
          refine wpAnyH_take (i := 5) (oi := { dst := some 31, op := Go.Op.load 9 (Go.Operand.tmp 30), type := 9, pos := "print.go:128", after := #[{ on := 4, ground := Go.Ground.data }], guard := none }) (v := .string f.n) rfl (by kernel_rfl) (by kernel_rfl) (by kernel_rfl) (fun _ _ _ h => h) (Or.inl ⟨by kernel_rfl, ?_⟩) hS ?_
          · intro w5 hSw
            have h0 := hSw.cell HK1.out
            clear hSw hS
            go_simp
          simp only [Act.put, List.setIfInBounds_toArray, List.set_cons_zero, List.set_cons_succ]
          refine wpAnyH_take (i := 6) (oi := { dst := some 32, op := Go.Op.move (Go.Operand.tmp 0), type := 54, pos := "print.go:128", after := #[], guard := none }) (v := .slice (some ⟨b, off, none⟩) fs.length c) rfl (by kernel_rfl) (by kernel_rfl) (by kernel_rfl) (fun _ _ _ h => h) (Or.inl ⟨by kernel_rfl, ?_⟩) hS ?_
          · intro w5 hSw
            clear hSw hS
            go_simp
          simp only [Act.put, List.setIfInBounds_toArray, List.set_cons_zero, List.set_cons_succ]
          refine wpAnyH_take (i := 7) (oi := { dst := some 33, op := Go.Op.move (Go.Operand.tmp 6), type := 3, pos := "print.go:128", after := #[], guard := none }) (v := .int .i64 (i : Int)) rfl (by kernel_rfl) (by kernel_rfl) (by kernel_rfl) (fun _ _ _ h => h) (Or.inl ⟨by kernel_rfl, ?_⟩) hS ?_
          · intro w5 hSw
            clear hSw hS
            go_simp
          simp only [Act.put, List.setIfInBounds_toArray, List.set_cons_zero, List.set_cons_succ]
          refine wpAnyH_take (i := 8) (oi := { dst := some 34, op := Go.Op.indexAddr 54 (Go.Operand.tmp 32) (Go.Operand.tmp 33), type := 0, pos := "print.go:128", after := #[{ on := 6, ground := Go.Ground.data }, { on := 7, ground := Go.Ground.data }], guard := none }) (v := .pointer (some ⟨b, off + i * 2, none⟩)) rfl (by kernel_rfl) (by kernel_rfl) (by kernel_rfl) (fun _ _ _ h => h) (Or.inl ⟨by kernel_rfl, ?_⟩) hS ?_
          · intro w5 hSw
            clear hSw hS
            exact exec_idxRf i hil rfl rfl rfl
          simp only [Act.put, List.setIfInBounds_toArray, List.set_cons_zero, List.set_cons_succ]
          refine wpAnyH_take (i := 9) (oi := { dst := some 35, op := Go.Op.fieldAddr 102 (Go.Operand.tmp 34) 1, type := 0, pos := "print.go:128", after := #[{ on := 8, ground := Go.Ground.data }], guard := none }) (v := .pointer (some ⟨b, off + i * 2 + 1, none⟩)) rfl (by kernel_rfl) (by kernel_rfl) (by kernel_rfl) (fun _ _ _ h => h) (Or.inl ⟨by kernel_rfl, ?_⟩) hS ?_
          · intro w5 hSw
            clear hSw hS
            go_simp
          simp only [Act.put, List.setIfInBounds_toArray, List.set_cons_zero, List.set_cons_succ]
          refine wpAnyH_take (i := 10) (oi := { dst := some 36, op := Go.Op.load 9 (Go.Operand.tmp 35), type := 9, pos := "print.go:128", after := #[{ on := 9, ground := Go.Ground.data }], guard := none }) (v := .string f.v) rfl (by kernel_rfl) (by kernel_rfl) (by kernel_rfl) (fun _ _ _ h => h) (Or.inl ⟨by kernel_rfl, ?_⟩) hS ?_
          · intro w5 hSw
            have h0 := hSw.cell HK2.out
            clear hSw hS
            go_simp
          simp only [Act.put, List.setIfInBounds_toArray, List.set_cons_zero, List.set_cons_succ]
          refine wpAnyH_ready (rs := [11]) (by kernel_rfl) (by simp) ?_
          refine AllReadyH.cons (o := { dst := some 37, op := Go.Op.call { callee := Go.Callee.value (Go.Operand.func 91), args := #[Go.Operand.tmp 36], argTypes := #[9] }, type := 9, pos := "print.go:128", after := #[{ on := 10, ground := Go.Ground.data }], guard := none }) rfl (fun K hK => ?_) AllReadyH.nil
          rw [if_pos (by kernel_rfl)]
          go_simp
          refine (Rtrim_walk f.v hfv w4.drew).mono ?_
          rintro e w6 ⟨rfl, h9⟩
          obtain rfl := h9.symm
          have HVt := Hid.of (show vs (trm f.v.data.toList) = .string (tfd f).v from rfl)
          clear h9
          rw [HVt.out]
          dsimp only
          refine hK.out _ _ hS (fun hS => ?_)
          clear hK K
          refine wpAnyH_take (i := 12) (oi := { dst := some 38, op := Go.Op.build 102 #[(0, Go.Operand.tmp 31), (1, Go.Operand.tmp 37)], type := 102, pos := "print.go:128", after := #[{ on := 5, ground := Go.Ground.data }, { on := 11, ground := Go.Ground.data }], guard := none }) (v := .agg #[.string f.n, .string (tfd f).v]) rfl (by kernel_rfl) (by kernel_rfl) (by kernel_rfl) (fun _ _ _ h => h) (Or.inl ⟨by kernel_rfl, ?_⟩) hS ?_
          · intro w5 hSw
            clear hSw hS
            go_simp
          simp only [Act.put, List.setIfInBounds_toArray, List.set_cons_zero, List.set_cons_succ]
          refine wpAnyH_ready (rs := [13]) (by kernel_rfl) (by simp) ?_
          refine AllReadyH.cons (o := { dst := some 39, op := Go.Op.buildSlice 54 1 #[(0, Go.Operand.tmp 38)], type := 54, pos := "print.go:128", after := #[{ on := 12, ground := Go.Ground.data }], guard := none }) rfl (fun K hK => ?_) AllReadyH.nil
          rw [if_pos (by kernel_rfl)]
          go_simp
          refine hK.out _ _ (hS.alloc _) (fun hS => ?_)
          clear hK K
          refine wpAnyH_ready (rs := [14]) (by kernel_rfl) (by simp) ?_
          refine AllReadyH.cons (o := { dst := some 40, op := Go.Op.call { callee := Go.Callee.builtin Go.Builtin.append, args := #[Go.Operand.tmp 26, Go.Operand.tmp 39], argTypes := #[54, 54] }, type := 54, pos := "print.go:128", after := #[{ on := 0, ground := Go.Ground.data }, { on := 13, ground := Go.Ground.data }, { on := 11, ground := Go.Ground.chain }], guard := none }) rfl (fun K hK => oper_of_list ?_) AllReadyH.nil
          refine wpList_appRf (w := w4.drew) (N := w.heap.size) rfl _ _ rfl a7 c7 (pfs (fs.take i)) (tfd f) HLn.out rfl rfl (ow_up HO4.out (Up.refl _).drew) HU4.out.drew.size (by omega) ?_
          intro ax2 cx2 w7 o7 u7 g7
          have HO7 := Hid.of (show RfO w7 w.heap.size ax2 (pfs (fs.take (i + 1))) cx2 by rw [HT2.out]; exact o7)
          have HU7 := Hid.of (u7 w HU4.out.drew (Nat.le_refl _))
          clear o7 u7 g7
          refine hK.out _ _ HU7.out (fun hS => ?_)
          clear hK K
          simp only [Act.put, List.setIfInBounds_toArray, List.set_cons_zero, List.set_cons_succ]
          refine wpAnyH_take (i := 15) (oi := { dst := some 5, op := Go.Op.assign (Go.Operand.tmp 40), type := 54, pos := "print.go:128", after := #[{ on := 14, ground := Go.Ground.data }, { on := 14, ground := Go.Ground.chain }, { on := 0, ground := Go.Ground.phase }, { on := 1, ground := Go.Ground.phase }, { on := 2, ground := Go.Ground.phase }, { on := 3, ground := Go.Ground.phase }, { on := 4, ground := Go.Ground.phase }, { on := 5, ground := Go.Ground.phase }, { on := 6, ground := Go.Ground.phase }, { on := 7, ground := Go.Ground.phase }, { on := 8, ground := Go.Ground.phase }, { on := 9, ground := Go.Ground.phase }, { on := 10, ground := Go.Ground.phase }, { on := 11, ground := Go.Ground.phase }, { on := 12, ground := Go.Ground.phase }, { on := 13, ground := Go.Ground.phase }, { on := 14, ground := Go.Ground.phase }], guard := none }) (v := .slice ax2 (q + 1) cx2) rfl (by kernel_rfl) (by kernel_rfl) (by kernel_rfl) (fun _ _ _ h => h) (Or.inl ⟨by kernel_rfl, ?_⟩) hS ?_
          · intro w5 hSw
            clear hSw hS
            go_simp
          simp only [Act.put, List.setIfInBounds_toArray, List.set_cons_zero, List.set_cons_succ]
          clear hS
          refine wpAnyH_done (by kernel_rfl) ?_ _
          go_wp2
          go_roundw
          all_goals first
            | exact ⟨i + 1, by go_num, by omega, q + 1, ax2, cx2, rfl, by omega, Hid.of ⟨HO7.out, HU7.out, HL7.out⟩⟩
            | (simp [intOf]; omega)
    · have hilz : ¬ (i : Int) < (fs.length : Int) := by omega
      have HTk := Hid.of (show fs.take i = fs from List.take_of_length_le (by omega))
      rw [HTk.out] at HQ
      by_cases hl0 : 0 ≤ len
      · have HTl := Hid.of (show tld fs len = pfs fs ++ [lnf len.toNat] by unfold tld; rw [if_pos hl0])
        have HLf := Hid.of (show vs (Go.Lib.itoa len) = .string (lnf len.toNat).v by unfold lnf; rw [Int.toNat_of_nonneg hl0])
        go_wp2_with fail
        refine (RFormatNumber_walk len (by omega) (by omega) wr).mono ?_
        rintro e w3 ⟨rfl, h9⟩
        have HU3 := Hid.of (HQ.out.2.1.trans h9)
        have HO3 := Hid.of (ow_up HQ.out.1 h9)
        clear h9
        rw [HLf.out]
        dsimp only
        go_wp2_with (with_reducible show wpList _ _ _ ({ dst := _, op := Op.call { callee := Callee.builtin Builtin.append, args := _, argTypes := _ }, type := _, pos := _, after := _, guard := _ } :: _) _ _; refine Shut.out ?_)
        show wpList _ _ _ _ _ _
        refine wpList_appRf (w := w3) (N := w.heap.size) rfl _ _ rfl a7 c7 (pfs fs) (lnf len.toNat) HQ.out.2.2 rfl rfl HO3.out HU3.out.size (by omega) ?_
        intro a4 c4 w4 o4 u4 _
        have HU4 := Hid.of (u4 w HU3.out (Nat.le_refl _))
        have HO4 := Hid.of o4
        clear o4 u4
        simp only [Act.put, List.setIfInBounds_toArray, List.set_cons_zero, List.set_cons_succ]
        go_wp2
        go_ret
        rw [HTl.out]
        exact ⟨⟨a4, c4, by rw [List.length_append, HQ.out.2.2]; rfl, Hid.of HO4.out⟩, HU4.out⟩
      · have HTl := Hid.of (show tld fs len = pfs fs by unfold tld; rw [if_neg hl0])
        go_wp2
        go_ret
        rw [HTl.out]
        exact ⟨⟨a7, c7, by rw [HQ.out.2.2]; rfl, Hid.of HQ.out.1⟩, HQ.out.2.1⟩
end Go.Proofs.YtabpgpbcnadgcaaGreatDoor
namespace Go.Proofs.YtabpgpbcnadgcaaGreatDoor
open Go.RowKit Go.Shelf TextNum
/-- three digits -/
def rsO (l : List UInt8) : Bool := decide (l.length = 3) && l.all isD
def rsN (l : List UInt8) : Nat := if rsO l = true then nv l else 0
def bd3 (i k : Nat) : Prop := (i = 0 ∧ k = 0) ∨ (i = 1 ∧ k ≤ 9) ∨ (i = 2 ∧ k ≤ 99) ∨ (i = 3 ∧ k ≤ 999)
theorem isD_iff' {c : UInt8} : isD c = true ↔ 48 ≤ c.toNat ∧ c.toNat ≤ 57 := by simp [isD]
theorem wrapu8 (z : Int) (h0 : 0 ≤ z) (h1 : z < 256) : IntKind.u8.wrap z = z := by
  simp only [IntKind.wrap, IntKind.signed, IntKind.bits]
  simp
  omega
set_option maxRecDepth 100000 in
set_option maxHeartbeats 1000000 in
theorem readStatus_walk (s : ByteArray) (w : World) : Calls Tryz.prog 155 #[.string s] w fun e w' => e = .returned (.tuple #[.int .i64 (rsN s.data.toList : Int), .bool (rsO s.data.toList)]) ∧ w' = w := by
  have HS := Hid.of (Go.Lib.size_eq s)
  obtain ⟨L, hL⟩ : ∃ L, s.data.toList = L := ⟨_, rfl⟩
  have HL := Hid.of hL
  rw [hL] at HS ⊢
  obtain ⟨rn, hrn⟩ : ∃ rn, rsN L = rn := ⟨_, rfl⟩
  obtain ⟨ro, hro⟩ : ∃ ro, rsO L = ro := ⟨_, rfl⟩
  have HR := Hid.of (And.intro hrn hro)
  rw [hrn, hro]
  clear hrn hro hL
  by_cases h3 : s.size = 3
  · have h3z : ((s.size : Int) != 3) = false := by rw [h3]; rfl
    have h3s : (s.size : Int) = 3 := by omega
    have HL3 := Hid.of (show L.length = 3 by rw [← HS.out]; exact h3)
    go_enter Tryz.func155, Tryz.ntmps155
    go_wp2
    go_loop [4, 11] (fun v4 v11 => ∃ i k : Nat, v11 = .int .i64 (i : Int) ∧ v4 = .int .i64 (k : Int) ∧ i ≤ 3 ∧ bd3 i k ∧ Hid ((L.take i).all isD = true ∧ nv (L.take i) = k)) (fun _ v11 => 3 - (intOf v11).toNat)
    case atStart => exact ⟨0, 0, rfl, rfl, by omega, .inl ⟨rfl, rfl⟩, Hid.of ⟨by simp, by simp [nv, nvf]⟩⟩
    case round =>
      obtain ⟨i, k, rfl, rfl, hi, hb, hI⟩ := hrel
      by_cases hlt : i < 3
      · have hlt' : (i : Int) < 3 := by omega
        have his : i < s.size := by omega
        have ht : L.take (i + 1) = L.take i ++ [s[i]] := by
          have := take_succ0 (l := L) (i := i) (by rw [← HS.out]; exact his)
          rw [this]
          simp only [sget' s i his, HL.out]
        by_cases hd : isD s[i] = true
        · have hd' := isD_iff'.1 hd
          have HN := Hid.of (show (L.take (i + 1)).all isD = true by rw [ht, List.all_append, hI.out.1]; simp [hd])
          have HV := Hid.of (show nv (L.take (i + 1)) = 10 * k + (s[i].toNat - 48) by rw [ht, nv_snoc, hI.out.2])
          have HD := Hid.of (isDigit_walk s[i] w)
          rw [hd] at HD
          have hb2 : bd3 (i + 1) (10 * k + (s[i].toNat - 48)) ∧ k ≤ 99 := by unfold bd3 at hb ⊢; omega
          have hw1 : IntKind.i64.wrap (10 * (k : Int)) = 10 * (k : Int) := wrapk _ (by omega) (by omega)
          have hw2 : IntKind.u8.wrap ((s[i].toNat : Int) - 48) = (s[i].toNat : Int) - 48 := wrapu8 _ (by omega) (by omega)
          have hw3 : IntKind.i64.wrap ((s[i].toNat : Int) - 48) = (s[i].toNat : Int) - 48 := wrapk _ (by omega) (by omega)
          have hw4 : IntKind.i64.wrap (10 * (k : Int) + ((s[i].toNat : Int) - 48)) = 10 * (k : Int) + ((s[i].toNat : Int) - 48) := wrapk _ (by omega) (by omega)
          clear ht hd
          go_wp2_with fail
          refine (HD.out).mono ?_
          rintro e w9 ⟨rfl, h9⟩
          obtain rfl := h9.symm
          clear h9
          dsimp only
          go_wp2
          go_round
          case rel => exact ⟨i + 1, 10 * k + (s[i].toNat - 48), by go_num, by simp only [Value.int.injEq, true_and]; omega, by omega, hb2.1, HN.out, HV.out⟩
          case measure => simp [intOf]; omega
        · have hno : L.all isD = false := by
            rw [List.all_eq_false]
            refine ⟨s[i], ?_, hd⟩
            have hli : i < L.length := by rw [← HS.out]; exact his
            have : s[i] = L[i] := by simp only [sget' s i his, HL.out]
            rw [this]
            exact List.getElem_mem hli
          have HE := Hid.of (show rn = 0 ∧ ro = false by
            have hO : rsO L = false := by unfold rsO; rw [hno, Bool.and_false]
            rw [← HR.out.1, ← HR.out.2]
            unfold rsN
            rw [hO]
            exact ⟨rfl, rfl⟩)
          have hdf : isD s[i] = false := by simpa using hd
          have HD := Hid.of (isDigit_walk s[i] w)
          rw [hdf] at HD
          clear ht hd hno hdf
          go_wp2_with fail
          refine (HD.out).mono ?_
          rintro e w9 ⟨rfl, h9⟩
          obtain rfl := h9.symm
          clear h9
          dsimp only
          go_wp2
          go_ret2
          rw [HE.out.1, HE.out.2]
          exact ⟨rfl, rfl⟩
      · have hlt' : ¬ (i : Int) < 3 := by omega
        have hi3 : i = 3 := by omega
        have HE := Hid.of (show rn = k ∧ ro = true by
          have h1 := hI.out
          rw [hi3, List.take_of_length_le (by rw [HL3.out]; omega)] at h1
          have hO : rsO L = true := by unfold rsO; rw [HL3.out, h1.1]; rfl
          rw [← HR.out.1, ← HR.out.2]
          unfold rsN
          rw [hO, h1.2]
          exact ⟨rfl, rfl⟩)
        clear hi3
        go_wp2
        go_ret2
        rw [HE.out.1, HE.out.2]
        exact ⟨rfl, rfl⟩
  · have h3z : ((s.size : Int) != 3) = true := by simp; omega
    have HE := Hid.of (show rn = 0 ∧ ro = false by
      have hO : rsO L = false := by unfold rsO; rw [decide_eq_false (by rw [← HS.out]; exact h3)]; rfl
      rw [← HR.out.1, ← HR.out.2]
      unfold rsN
      rw [hO]
      exact ⟨rfl, rfl⟩)
    go_enter Tryz.func155, Tryz.ntmps155
    go_wp2
    go_ret2
    rw [HE.out.1, HE.out.2]
    exact ⟨rfl, rfl⟩
/-- a response without anything -/
def z5 : List Value := [.int .i64 0, .int .i64 0, .slice none 0 0, .slice none 0 0, .bool false]
/-- a response's first line -/
def rsl (l : List UInt8) : Er (Nat × Int) :=
  if (rsO (c1 32 (c2 32 l)) && (vok (c1 32 l) && vlu (c2 32 (c2 32 l)))) = false then .error 3
  else match mno ⟨(c1 32 l).toArray⟩ with
    | .error k => .error k
    | .ok n => if sto (rsN (c1 32 (c2 32 l)) : Int) = false then .error 11 else .ok (rsN (c1 32 (c2 32 l)), n)
def slR (ad : Nat → Addr) : Er (Nat × Int) → Value
  | .error k => .tuple #[.agg z5.toArray, ev (ad k)]
  | .ok (s, n) => .tuple #[.agg #[.int .i64 (s : Int), .int .i64 n, .slice none 0 0, .slice none 0 0, .bool false], .nilIface]
theorem rsl_er {l : List UInt8} {k : Nat} (h : rsl l = .error k) : k < 12 := by
  unfold rsl at h
  split at h
  · injection h with h; omega
  · split at h
    · rename_i hm
      injection h with h
      have := mno_er hm
      omega
    · split at h
      · injection h with h; omega
      · cases h
set_option maxRecDepth 100000 in
set_option maxHeartbeats 2000000 in
theorem readStatusLine_walk (ad : Nat → Addr) (s : ByteArray) (hs : s.size ≤ 1048576) (w : World) (h : GE w ad) (hN : GN w) : Calls Tryz.prog 122 #[.string s] w fun e w' => e = .returned (slR ad (rsl s.data.toList)) ∧ Up w w' := by
  have HG := Hid.of h
  have HNN := Hid.of hN
  clear h hN
  have HA0 := Hid.of (at_new w 77 z5)
  have HU0 := Hid.of ((Up.refl w).alloc (.cells z5.toArray 77))
  obtain ⟨L, hL⟩ : ∃ L, s.data.toList = L := ⟨_, rfl⟩
  have hC1 := fun w => Cut_up s (by omega) 32 w
  have hl1 := c_len 32 L
  have hl2 := c_len 32 (c2 32 L)
  have hLs : L.length = s.size := by rw [← hL, ← Go.Lib.size_eq]
  rw [hL] at hC1 ⊢
  clear hL
  obtain ⟨rv, hrv⟩ : ∃ rv, slR ad (rsl L) = rv := ⟨_, rfl⟩
  have HR := Hid.of hrv
  rw [hrv]
  clear hrv
  unfold rsl at HR
  obtain ⟨m, hm⟩ : ∃ m : ByteArray, (⟨(c1 32 L).toArray⟩ : ByteArray) = m := ⟨_, rfl⟩
  obtain ⟨r, hr⟩ : ∃ r : ByteArray, (⟨(c2 32 L).toArray⟩ : ByteArray) = r := ⟨_, rfl⟩
  have hmd : c1 32 L = m.data.toList := by rw [← hm]
  have hrd : c2 32 L = r.data.toList := by rw [← hr]
  have hms : m.size ≤ 1048576 := by rw [Go.Lib.size_eq, ← hmd]; omega
  have hrs : r.size ≤ 1048576 := by rw [Go.Lib.size_eq, ← hrd]; omega
  have hC2 := fun w => Cut_up r (by omega) 32 w
  rw [hmd, vs_data', hrd, vs_data'] at hC1
  rw [hm, hmd, hrd] at HR
  rw [hrd] at hl2
  obtain ⟨t, ht⟩ : ∃ t : ByteArray, (⟨(c1 32 r.data.toList).toArray⟩ : ByteArray) = t := ⟨_, rfl⟩
  obtain ⟨v, hv⟩ : ∃ v : ByteArray, (⟨(c2 32 r.data.toList).toArray⟩ : ByteArray) = v := ⟨_, rfl⟩
  have htd : c1 32 r.data.toList = t.data.toList := by rw [← ht]
  have hvd : c2 32 r.data.toList = v.data.toList := by rw [← hv]
  have hvs : v.size ≤ 1048576 := by rw [Go.Lib.size_eq, ← hvd]; rw [Go.Lib.size_eq] at hrs; omega
  rw [htd, vs_data', hvd, vs_data'] at hC2
  rw [htd, hvd] at HR
  generalize (Go.Lib.cut L [32]).2.2 = bb1 at *
  generalize (Go.Lib.cut r.data.toList [32]).2.2 = bb2 at *
  have HC1 := Hid.of hC1
  have HC2 := Hid.of hC2
  clear hC1 hC2 hm hr ht hv hmd hrd htd hvd hl1 hl2 hLs
  go_enter Tryz.func122, Tryz.ntmps122
  go_wp2_with fail
  change Calls _ _ _ (w.alloc (.cells z5.toArray 77)) _
  generalize w.alloc (.cells z5.toArray 77) = w1 at *
  refine (HC1.out w1).mono ?_
  rintro e w2 ⟨rfl, h9⟩
  have HU2 := Hid.of (HU0.out.trans h9)
  have HA2 := Hid.of (HA0.out.up h9)
  clear h9
  dsimp only
  go_wp2_with fail
  refine (HC2.out w2).mono ?_
  rintro e w3 ⟨rfl, h9⟩
  have HU3 := Hid.of (HU2.out.trans h9)
  have HA3 := Hid.of (HA2.out.up h9)
  clear h9
  dsimp only
  have HRS := Hid.of (readStatus_walk t w3)
  obtain ⟨sn, hsn⟩ : ∃ sn, rsN t.data.toList = sn := ⟨_, rfl⟩
  rw [hsn] at HRS HR
  clear hsn
  go_wp2_with fail
  refine (HRS.out).mono ?_
  rintro e w9 ⟨rfl, h9⟩
  obtain rfl := h9.symm
  clear h9
  dsimp only
  cases hk : rsO t.data.toList with
  | false =>
    rw [hk] at HR
    have HE := Hid.of (show rv = slR ad (.error 3) by rw [← HR.out]; rfl)
    clear hk
    go_wp2
    refine wp_region_held_drew (S := fun w2 => (∃ cs, cs.length = 5 ∧ At w2 w.heap.size 77 cs) ∧ GE w2 ad ∧ Up w w2) (by kernel_rfl) ⟨⟨z5, rfl, HA3.out.up (Up.refl _).drew⟩, HG.out.up HU3.out.drew, HU3.out.drew⟩ (fun hS => ?_)
    refine wpAnyH_take (i := 0) (oi := { dst := some 43, op := Go.Op.build 77 #[], type := 77, pos := "start.go:73", after := #[], guard := none }) (v := .agg z5.toArray) rfl (by kernel_rfl) (by kernel_rfl) (by kernel_rfl) (fun _ _ _ h => h) (Or.inl ⟨by kernel_rfl, ?_⟩) hS ?_
    · intro w5 hSw
      clear hSw hS
      go_simp
      rfl
    simp only [Act.put, List.setIfInBounds_toArray, List.set_cons_zero, List.set_cons_succ]
    refine wpAnyH_take (i := 1) (oi := { dst := some 44, op := Go.Op.load 106 (Go.Operand.global 3), type := 106, pos := "start.go:73", after := #[{ on := 2, ground := Go.Ground.gcOnly Go.Departure.lateStores }], guard := none }) (v := ev (ad 3)) rfl (by kernel_rfl) (by kernel_rfl) (by kernel_rfl) (fun _ _ _ h => h) (Or.inl ⟨by kernel_rfl, ?_⟩) hS ?_
    · intro w5 hSw
      have hgl : w5.cell? ⟨3, 0, none⟩ = _ := hSw.2.1.gl 3 (by decide)
      clear hSw hS
      go_simp
    simp only [Act.put, List.setIfInBounds_toArray, List.set_cons_zero, List.set_cons_succ]
    refine wpAnyH_ready (rs := [2]) (by kernel_rfl) (by simp) ?_
    refine AllReadyH.cons (o := { dst := none, op := Go.Op.store 77 (Go.Operand.tmp 2) (Go.Operand.tmp 43), type := 0, pos := "start.go:73", after := #[{ on := 0, ground := Go.Ground.data }, { on := 0, ground := Go.Ground.phase }, { on := 1, ground := Go.Ground.textOnly Go.Departure.lateStores }], guard := none }) rfl (fun K hK => oper_of_list ?_) AllReadyH.nil
    obtain ⟨⟨cs, hcl, hcs2⟩, hS1, hS2⟩ := hS
    refine wpList_store_at rfl 77 _ _ rfl (w.heap.size) hcs2 z5 rfl rfl hcl.symm (by kernel_rfl) (by kernel_rfl) ?_
    intro w8 hA8 hg8
    have HA8 := Hid.of hA8
    have HU8 := Hid.of (hS2.by hg8 (fun g hg => by have := Option.some.inj hg; omega))
    clear hA8 hg8 hcs2 hS2 hS1
    refine hK.out _ _ ⟨⟨_, rfl, HA8.out⟩, HG.out.up HU8.out, HU8.out⟩ (fun hS => ?_)
    clear hK K
    refine wpAnyH_take (i := 3) (oi := { dst := some 3, op := Go.Op.assign (Go.Operand.tmp 44), type := 106, pos := "start.go:73", after := #[{ on := 1, ground := Go.Ground.data }, { on := 2, ground := Go.Ground.chain }, { on := 0, ground := Go.Ground.phase }, { on := 1, ground := Go.Ground.phase }, { on := 2, ground := Go.Ground.phase }], guard := none }) (v := ev (ad 3)) rfl (by kernel_rfl) (by kernel_rfl) (by kernel_rfl) (fun _ _ _ h => h) (Or.inl ⟨by kernel_rfl, ?_⟩) hS ?_
    · intro w5 hSw
      clear hSw hS
      go_simp
    simp only [Act.put, List.setIfInBounds_toArray, List.set_cons_zero, List.set_cons_succ]
    clear hS
    refine wpAnyH_done (by kernel_rfl) ?_ _
    repeat go_step
    refine bodyPost_ret (result_cell_tmp Tryz.results122 _ _ (w.heap.size) z5 _ rfl rfl HA8.out.range Tryz.underlying77 rfl (by kernel_rfl)) rfl ?_
    rw [HE.out]
    exact ⟨rfl, HU8.out⟩
  | true =>
    rw [hk] at HR
    clear hk
    have HVr := Hid.of (isVersion_walk m w3)
    cases hv0 : vok m.data.toList with
    | false =>
      rw [hv0] at HR HVr
      have HE := Hid.of (show rv = slR ad (.error 3) by rw [← HR.out]; rfl)
      clear hv0
      go_wp2_with fail
      refine (HVr.out).mono ?_
      rintro e w9 ⟨rfl, h9⟩
      obtain rfl := h9.symm
      clear h9
      dsimp only
      go_wp2
      refine wp_region_held_drew (S := fun w2 => (∃ cs, cs.length = 5 ∧ At w2 w.heap.size 77 cs) ∧ GE w2 ad ∧ Up w w2) (by kernel_rfl) ⟨⟨z5, rfl, HA3.out.up (Up.refl _).drew⟩, HG.out.up HU3.out.drew, HU3.out.drew⟩ (fun hS => ?_)
      refine wpAnyH_take (i := 0) (oi := { dst := some 43, op := Go.Op.build 77 #[], type := 77, pos := "start.go:73", after := #[], guard := none }) (v := .agg z5.toArray) rfl (by kernel_rfl) (by kernel_rfl) (by kernel_rfl) (fun _ _ _ h => h) (Or.inl ⟨by kernel_rfl, ?_⟩) hS ?_
      · intro w5 hSw
        clear hSw hS
        go_simp
        rfl
      simp only [Act.put, List.setIfInBounds_toArray, List.set_cons_zero, List.set_cons_succ]
      refine wpAnyH_take (i := 1) (oi := { dst := some 44, op := Go.Op.load 106 (Go.Operand.global 3), type := 106, pos := "start.go:73", after := #[{ on := 2, ground := Go.Ground.gcOnly Go.Departure.lateStores }], guard := none }) (v := ev (ad 3)) rfl (by kernel_rfl) (by kernel_rfl) (by kernel_rfl) (fun _ _ _ h => h) (Or.inl ⟨by kernel_rfl, ?_⟩) hS ?_
      · intro w5 hSw
        have hgl : w5.cell? ⟨3, 0, none⟩ = _ := hSw.2.1.gl 3 (by decide)
        clear hSw hS
        go_simp
      simp only [Act.put, List.setIfInBounds_toArray, List.set_cons_zero, List.set_cons_succ]
      refine wpAnyH_ready (rs := [2]) (by kernel_rfl) (by simp) ?_
      refine AllReadyH.cons (o := { dst := none, op := Go.Op.store 77 (Go.Operand.tmp 2) (Go.Operand.tmp 43), type := 0, pos := "start.go:73", after := #[{ on := 0, ground := Go.Ground.data }, { on := 0, ground := Go.Ground.phase }, { on := 1, ground := Go.Ground.textOnly Go.Departure.lateStores }], guard := none }) rfl (fun K hK => oper_of_list ?_) AllReadyH.nil
      obtain ⟨⟨cs, hcl, hcs2⟩, hS1, hS2⟩ := hS
      refine wpList_store_at rfl 77 _ _ rfl (w.heap.size) hcs2 z5 rfl rfl hcl.symm (by kernel_rfl) (by kernel_rfl) ?_
      intro w8 hA8 hg8
      have HA8 := Hid.of hA8
      have HU8 := Hid.of (hS2.by hg8 (fun g hg => by have := Option.some.inj hg; omega))
      clear hA8 hg8 hcs2 hS2 hS1
      refine hK.out _ _ ⟨⟨_, rfl, HA8.out⟩, HG.out.up HU8.out, HU8.out⟩ (fun hS => ?_)
      clear hK K
      refine wpAnyH_take (i := 3) (oi := { dst := some 3, op := Go.Op.assign (Go.Operand.tmp 44), type := 106, pos := "start.go:73", after := #[{ on := 1, ground := Go.Ground.data }, { on := 2, ground := Go.Ground.chain }, { on := 0, ground := Go.Ground.phase }, { on := 1, ground := Go.Ground.phase }, { on := 2, ground := Go.Ground.phase }], guard := none }) (v := ev (ad 3)) rfl (by kernel_rfl) (by kernel_rfl) (by kernel_rfl) (fun _ _ _ h => h) (Or.inl ⟨by kernel_rfl, ?_⟩) hS ?_
      · intro w5 hSw
        clear hSw hS
        go_simp
      simp only [Act.put, List.setIfInBounds_toArray, List.set_cons_zero, List.set_cons_succ]
      clear hS
      refine wpAnyH_done (by kernel_rfl) ?_ _
      repeat go_step
      refine bodyPost_ret (result_cell_tmp Tryz.results122 _ _ (w.heap.size) z5 _ rfl rfl HA8.out.range Tryz.underlying77 rfl (by kernel_rfl)) rfl ?_
      rw [HE.out]
      exact ⟨rfl, HU8.out⟩
    | true =>
      rw [hv0] at HR HVr
      clear hv0
      have HVl := Hid.of (mayBeValue_walk v (by omega) w3)
      go_wp2_with fail
      refine (HVr.out).mono ?_
      rintro e w9 ⟨rfl, h9⟩
      obtain rfl := h9.symm
      clear h9
      dsimp only
      cases hvl : vlu v.data.toList with
      | false =>
        rw [hvl] at HR HVl
        have HE := Hid.of (show rv = slR ad (.error 3) by rw [← HR.out]; rfl)
        clear hvl
        go_wp2_with fail
        refine (HVl.out).mono ?_
        rintro e w4 ⟨rfl, h9⟩
        have HU4 := Hid.of (HU3.out.trans h9)
        have HA4 := Hid.of (HA3.out.up h9)
        clear h9
        dsimp only
        go_wp2
        refine wp_region_held_drew (S := fun w2 => (∃ cs, cs.length = 5 ∧ At w2 w.heap.size 77 cs) ∧ GE w2 ad ∧ Up w w2) (by kernel_rfl) ⟨⟨z5, rfl, HA4.out.up (Up.refl _).drew⟩, HG.out.up HU4.out.drew, HU4.out.drew⟩ (fun hS => ?_)
        refine wpAnyH_take (i := 0) (oi := { dst := some 43, op := Go.Op.build 77 #[], type := 77, pos := "start.go:73", after := #[], guard := none }) (v := .agg z5.toArray) rfl (by kernel_rfl) (by kernel_rfl) (by kernel_rfl) (fun _ _ _ h => h) (Or.inl ⟨by kernel_rfl, ?_⟩) hS ?_
        · intro w5 hSw
          clear hSw hS
          go_simp
          rfl
        simp only [Act.put, List.setIfInBounds_toArray, List.set_cons_zero, List.set_cons_succ]
        refine wpAnyH_take (i := 1) (oi := { dst := some 44, op := Go.Op.load 106 (Go.Operand.global 3), type := 106, pos := "start.go:73", after := #[{ on := 2, ground := Go.Ground.gcOnly Go.Departure.lateStores }], guard := none }) (v := ev (ad 3)) rfl (by kernel_rfl) (by kernel_rfl) (by kernel_rfl) (fun _ _ _ h => h) (Or.inl ⟨by kernel_rfl, ?_⟩) hS ?_
        · intro w5 hSw
          have hgl : w5.cell? ⟨3, 0, none⟩ = _ := hSw.2.1.gl 3 (by decide)
          clear hSw hS
          go_simp
        simp only [Act.put, List.setIfInBounds_toArray, List.set_cons_zero, List.set_cons_succ]
        refine wpAnyH_ready (rs := [2]) (by kernel_rfl) (by simp) ?_
        refine AllReadyH.cons (o := { dst := none, op := Go.Op.store 77 (Go.Operand.tmp 2) (Go.Operand.tmp 43), type := 0, pos := "start.go:73", after := #[{ on := 0, ground := Go.Ground.data }, { on := 0, ground := Go.Ground.phase }, { on := 1, ground := Go.Ground.textOnly Go.Departure.lateStores }], guard := none }) rfl (fun K hK => oper_of_list ?_) AllReadyH.nil
        obtain ⟨⟨cs, hcl, hcs2⟩, hS1, hS2⟩ := hS
        refine wpList_store_at rfl 77 _ _ rfl (w.heap.size) hcs2 z5 rfl rfl hcl.symm (by kernel_rfl) (by kernel_rfl) ?_
        intro w8 hA8 hg8
        have HA8 := Hid.of hA8
        have HU8 := Hid.of (hS2.by hg8 (fun g hg => by have := Option.some.inj hg; omega))
        clear hA8 hg8 hcs2 hS2 hS1
        refine hK.out _ _ ⟨⟨_, rfl, HA8.out⟩, HG.out.up HU8.out, HU8.out⟩ (fun hS => ?_)
        clear hK K
        refine wpAnyH_take (i := 3) (oi := { dst := some 3, op := Go.Op.assign (Go.Operand.tmp 44), type := 106, pos := "start.go:73", after := #[{ on := 1, ground := Go.Ground.data }, { on := 2, ground := Go.Ground.chain }, { on := 0, ground := Go.Ground.phase }, { on := 1, ground := Go.Ground.phase }, { on := 2, ground := Go.Ground.phase }], guard := none }) (v := ev (ad 3)) rfl (by kernel_rfl) (by kernel_rfl) (by kernel_rfl) (fun _ _ _ h => h) (Or.inl ⟨by kernel_rfl, ?_⟩) hS ?_
        · intro w5 hSw
          clear hSw hS
          go_simp
        simp only [Act.put, List.setIfInBounds_toArray, List.set_cons_zero, List.set_cons_succ]
        clear hS
        refine wpAnyH_done (by kernel_rfl) ?_ _
        repeat go_step
        refine bodyPost_ret (result_cell_tmp Tryz.results122 _ _ (w.heap.size) z5 _ rfl rfl HA8.out.range Tryz.underlying77 rfl (by kernel_rfl)) rfl ?_
        rw [HE.out]
        exact ⟨rfl, HU8.out⟩
      | true =>
        rw [hvl] at HR HVl
        have HR2 := Hid.of (show rv = slR ad (match mno m with | .error k => .error k | .ok n => if sto (sn : Int) = false then .error 11 else .ok (sn, n)) by rw [← HR.out]; rfl)
        clear hvl HR
        go_wp2_with fail
        refine (HVl.out).mono ?_
        rintro e w4 ⟨rfl, h9⟩
        have HU4 := Hid.of (HU3.out.trans h9)
        have HA4 := Hid.of (HA3.out.up h9)
        clear h9
        dsimp only
        have HMo := Hid.of (minorOf_walk ad m w4 (HG.out.up HU4.out) (HNN.out.up HU4.out))
        go_wp2_with fail
        refine (HMo.out).mono ?_
        rintro e w5 ⟨rfl, h9⟩
        have HU5 := Hid.of (HU4.out.trans h9)
        have HA5 := Hid.of (HA4.out.up h9)
        clear h9
        dsimp only
        cases hmo : mno m with
        | error k =>
          have hk4 := mno_er hmo
          subst hk4
          rw [hmo] at HR2
          have HE := Hid.of (show rv = slR ad (.error 4) from HR2.out)
          unfold mnR
          dsimp only
          clear hmo
          go_wp2_with (with_reducible show wpList _ _ _ ({ dst := _, op := Op.store 77 _ _, type := _, pos := _, after := _, guard := _ } :: _) _ _; refine Shut.out ?_)
          show wpList _ _ _ _ _ _
          refine wpList_store_at rfl 77 _ _ rfl (w.heap.size) HA5.out z5 rfl rfl rfl (by kernel_rfl) (by kernel_rfl) ?_
          intro w8 hA8 hg8
          have HA8 := Hid.of hA8
          have HU8 := Hid.of (HU5.out.by hg8 (fun g hg => by have := Option.some.inj hg; omega))
          clear hA8 hg8
          simp only [Act.put]
          repeat go_step
          refine bodyPost_ret (result_cell_tmp Tryz.results122 _ _ (w.heap.size) z5 _ rfl rfl HA8.out.range Tryz.underlying77 rfl (by kernel_rfl)) rfl ?_
          rw [HE.out]
          exact ⟨rfl, HU8.out⟩
        | ok mi =>
          rw [hmo] at HR2
          unfold mnR
          dsimp only at HR2 ⊢
          clear hmo
          have HSt := Hid.of (isStatus_walk (sn : Int) w5)
          cases hst : sto (sn : Int) with
          | false =>
            rw [hst] at HR2 HSt
            have HE := Hid.of (show rv = slR ad (.error 11) by rw [HR2.out]; rfl)
            clear hst
            go_wp2_with fail
            refine (HSt.out).mono ?_
            rintro e w9 ⟨rfl, h9⟩
            obtain rfl := h9.symm
            clear h9
            dsimp only
            go_wp2
            refine wp_region_held_drew (S := fun w2 => (∃ cs, cs.length = 5 ∧ At w2 w.heap.size 77 cs) ∧ GE w2 ad ∧ Up w w2) (by kernel_rfl) ⟨⟨z5, rfl, HA5.out.up (Up.refl _).drew⟩, HG.out.up HU5.out.drew, HU5.out.drew⟩ (fun hS => ?_)
            refine wpAnyH_take (i := 0) (oi := { dst := some 57, op := Go.Op.build 77 #[], type := 77, pos := "start.go:80", after := #[], guard := none }) (v := .agg z5.toArray) rfl (by kernel_rfl) (by kernel_rfl) (by kernel_rfl) (fun _ _ _ h => h) (Or.inl ⟨by kernel_rfl, ?_⟩) hS ?_
            · intro w5 hSw
              clear hSw hS
              go_simp
              rfl
            simp only [Act.put, List.setIfInBounds_toArray, List.set_cons_zero, List.set_cons_succ]
            refine wpAnyH_take (i := 1) (oi := { dst := some 58, op := Go.Op.load 106 (Go.Operand.global 12), type := 106, pos := "start.go:80", after := #[{ on := 2, ground := Go.Ground.gcOnly Go.Departure.lateStores }], guard := none }) (v := ev (ad 11)) rfl (by kernel_rfl) (by kernel_rfl) (by kernel_rfl) (fun _ _ _ h => h) (Or.inl ⟨by kernel_rfl, ?_⟩) hS ?_
            · intro w5 hSw
              have hgl : w5.cell? ⟨12, 0, none⟩ = _ := hSw.2.1.gl 11 (by decide)
              clear hSw hS
              go_simp
            simp only [Act.put, List.setIfInBounds_toArray, List.set_cons_zero, List.set_cons_succ]
            refine wpAnyH_ready (rs := [2]) (by kernel_rfl) (by simp) ?_
            refine AllReadyH.cons (o := { dst := none, op := Go.Op.store 77 (Go.Operand.tmp 2) (Go.Operand.tmp 57), type := 0, pos := "start.go:80", after := #[{ on := 0, ground := Go.Ground.data }, { on := 0, ground := Go.Ground.phase }, { on := 1, ground := Go.Ground.textOnly Go.Departure.lateStores }], guard := none }) rfl (fun K hK => oper_of_list ?_) AllReadyH.nil
            obtain ⟨⟨cs, hcl, hcs2⟩, hS1, hS2⟩ := hS
            refine wpList_store_at rfl 77 _ _ rfl (w.heap.size) hcs2 z5 rfl rfl hcl.symm (by kernel_rfl) (by kernel_rfl) ?_
            intro w8 hA8 hg8
            have HA8 := Hid.of hA8
            have HU8 := Hid.of (hS2.by hg8 (fun g hg => by have := Option.some.inj hg; omega))
            clear hA8 hg8 hcs2 hS2 hS1
            refine hK.out _ _ ⟨⟨_, rfl, HA8.out⟩, HG.out.up HU8.out, HU8.out⟩ (fun hS => ?_)
            clear hK K
            refine wpAnyH_take (i := 3) (oi := { dst := some 3, op := Go.Op.assign (Go.Operand.tmp 58), type := 106, pos := "start.go:80", after := #[{ on := 1, ground := Go.Ground.data }, { on := 2, ground := Go.Ground.chain }, { on := 0, ground := Go.Ground.phase }, { on := 1, ground := Go.Ground.phase }, { on := 2, ground := Go.Ground.phase }], guard := none }) (v := ev (ad 11)) rfl (by kernel_rfl) (by kernel_rfl) (by kernel_rfl) (fun _ _ _ h => h) (Or.inl ⟨by kernel_rfl, ?_⟩) hS ?_
            · intro w5 hSw
              clear hSw hS
              go_simp
            simp only [Act.put, List.setIfInBounds_toArray, List.set_cons_zero, List.set_cons_succ]
            clear hS
            refine wpAnyH_done (by kernel_rfl) ?_ _
            repeat go_step
            refine bodyPost_ret (result_cell_tmp Tryz.results122 _ _ (w.heap.size) z5 _ rfl rfl HA8.out.range Tryz.underlying77 rfl (by kernel_rfl)) rfl ?_
            rw [HE.out]
            exact ⟨rfl, HU8.out⟩
          | true =>
            rw [hst] at HR2 HSt
            have HE := Hid.of (show rv = .tuple #[.agg #[.int .i64 (sn : Int), .int .i64 mi, .slice none 0 0, .slice none 0 0, .bool false], .nilIface] by rw [HR2.out]; rfl)
            clear hst
            go_wp2_with fail
            refine (HSt.out).mono ?_
            rintro e w9 ⟨rfl, h9⟩
            obtain rfl := h9.symm
            clear h9
            dsimp only
            go_wp2_with (with_reducible show wpList _ _ _ ({ dst := _, op := Op.store 77 _ _, type := _, pos := _, after := _, guard := _ } :: _) _ _; refine Shut.out ?_)
            show wpList _ _ _ _ _ _
            refine wpList_store_at rfl 77 _ _ rfl (w.heap.size) HA5.out [.int .i64 (sn : Int), .int .i64 mi, .slice none 0 0, .slice none 0 0, .bool false] rfl rfl rfl (by kernel_rfl) (by kernel_rfl) ?_
            intro w8 hA8 hg8
            have HA8 := Hid.of hA8
            have HU8 := Hid.of (HU5.out.by hg8 (fun g hg => by have := Option.some.inj hg; omega))
            clear hA8 hg8
            simp only [Act.put]
            repeat go_step
            refine bodyPost_ret (result_cell_tmp Tryz.results122 _ _ (w.heap.size) [.int .i64 (sn : Int), .int .i64 mi, .slice none 0 0, .slice none 0 0, .bool false] _ rfl rfl HA8.out.range Tryz.underlying77 rfl (by kernel_rfl)) rfl ?_
            rw [HE.out]
            exact ⟨rfl, HU8.out⟩
/-- how a response's body is told -/
def rsF (st : Int) (fs : List FD) (mi : Int) : Er (Int × Nat) := if bdl st = true then .ok (0, 0) else frm fs mi 1
set_option maxRecDepth 100000 in
set_option maxHeartbeats 2000000 in
theorem responseFraming_walk (ad : Nat → Addr) (st mi : Int) (a : Option Addr) (fs : List FD) (c nf : Nat) (vb : Value) (cl : Bool) (hnf : fs.length = nf) (w : World) (h : FdL w a fs c) (hl : fs.length ≤ 1048576) (hs : ∀ f ∈ fs, f.v.size ≤ 1048576) (hE : GE w ad) (hK : w.rangeAt 13 0 kdC) (hP : GP w) :
    Calls Tryz.prog 123 #[.agg #[.int .i64 st, .int .i64 mi, .slice a nf c, vb, .bool cl]] w fun e w' => e = .returned (frR ad (rsF st fs mi)) ∧ Up w w' := by
  have HA0 := Hid.of (at_new w 77 [.int .i64 st, .int .i64 mi, .slice a nf c, vb, .bool cl])
  have hu0 := (Up.refl w).alloc (.cells [Value.int .i64 st, .int .i64 mi, .slice a nf c, vb, .bool cl].toArray 77)
  have hu1 := hu0.alloc (.cells z2.toArray 185)
  have HZ1 := Hid.of (at_new (w.alloc (.cells [Value.int .i64 st, .int .i64 mi, .slice a nf c, vb, .bool cl].toArray 77)) 185 z2)
  have HA1 := Hid.of (HA0.out.up ((Up.refl _).alloc (.cells z2.toArray 185)))
  have HU1 := Hid.of hu1
  have hbs : (w.alloc (.cells [Value.int .i64 st, .int .i64 mi, .slice a nf c, vb, .bool cl].toArray 77)).heap.size = w.heap.size + 1 := alloc_size _ _
  rw [hbs] at HZ1
  clear hu0 hu1 hbs HA0
  have HFm := Hid.of (fun (w2 : World) (hu : Up w w2) => framingOf_walk ad a fs c mi 1 w2 (h.up hu) hl hs (hE.up hu) (range_up hK hu) (hP.up hu))
  rw [hnf] at HFm
  have HNf := Hid.of hnf
  clear h hs hE hK hP hnf hl
  obtain ⟨rv, hrv⟩ : ∃ rv, frR ad (rsF st fs mi) = rv := ⟨_, rfl⟩
  have HR := Hid.of hrv
  rw [hrv]
  clear hrv
  unfold rsF at HR
  go_enter Tryz.func123, Tryz.ntmps123
  go_wp2_with (with_reducible show wpList _ _ _ ({ dst := _, op := Op.fieldAddr 77 _ _, type := _, pos := _, after := _, guard := _ } :: _) _ _; refine Shut.out ?_)
  show wpList _ _ _ _ _ _
  obtain ⟨w1, hw1⟩ : ∃ w1, (w.alloc (.cells #[.int .i64 st, .int .i64 mi, .slice a nf c, vb, .bool cl] 77)).alloc (.cells z2.toArray 185) = w1 := ⟨_, rfl⟩
  change wpList _ _ _ _ _ ((w.alloc (.cells #[.int .i64 st, .int .i64 mi, .slice a nf c, vb, .bool cl] 77)).alloc (.cells z2.toArray 185))
  rw [hw1]
  have hA1 : At w1 w.heap.size 77 [.int .i64 st, .int .i64 mi, .slice a nf c, vb, .bool cl] := by rw [← hw1]; exact HA1.out
  have hZ1 : At w1 (w.heap.size + 1) 185 z2 := by rw [← hw1]; exact HZ1.out
  have hU1 : Up w w1 := by rw [← hw1]; exact HU1.out
  clear hw1 HA1 HZ1 HU1
  have HA1 := Hid.of hA1
  have HZ1 := Hid.of hZ1
  have HU1 := Hid.of hU1
  have k0 : w1.cell? ⟨w.heap.size, 0, none⟩ = some (.int .i64 st) := hA1.cell (i := 0) rfl
  clear hA1 hZ1 hU1
  have HBd := Hid.of (isBodiless_walk st w1)
  cases hb : bdl st with
  | true =>
    rw [hb] at HBd HR
    have HE := Hid.of (show rv = .tuple #[.agg #[.int .i64 0, .int .i64 0], .nilIface] by rw [← HR.out]; rfl)
    clear hb
    go_wp2_with fail
    refine (HBd.out).mono ?_
    rintro e w9 ⟨rfl, h9⟩
    obtain rfl := h9.symm
    clear h9
    dsimp only
    go_wp2_with (with_reducible show wpList _ _ _ ({ dst := _, op := Op.store 185 _ _, type := _, pos := _, after := _, guard := _ } :: _) _ _; refine Shut.out ?_)
    show wpList _ _ _ _ _ _
    refine wpList_store_at rfl 185 _ _ rfl (w.heap.size + 1) HZ1.out [.int .i64 0, .int .i64 0] rfl rfl rfl (by kernel_rfl) (by kernel_rfl) ?_
    intro w8 hA8 hg8
    have HA8 := Hid.of hA8
    have HU8 := Hid.of (HU1.out.by hg8 (fun g hg => by have := Option.some.inj hg; omega))
    clear hA8 hg8
    simp only [Act.put]
    repeat go_step
    refine bodyPost_ret (result_cell_tmp Tryz.results123 _ _ (w.heap.size + 1) [.int .i64 0, .int .i64 0] _ rfl rfl HA8.out.range Tryz.underlying185 rfl (by kernel_rfl)) rfl ?_
    rw [HE.out]
    exact ⟨rfl, HU8.out⟩
  | false =>
    rw [hb] at HBd HR
    have HR3 := Hid.of (show rv = frR ad (frm fs mi 1) by rw [← HR.out]; rfl)
    clear hb HR
    have k2 : w1.cell? ⟨w.heap.size, 2, none⟩ = some (.slice a nf c) := HA1.out.cell (i := 2) rfl
    have k1 : w1.cell? ⟨w.heap.size, 1, none⟩ = some (.int .i64 mi) := HA1.out.cell (i := 1) rfl
    have HFB := Hid.of (HFm.out w1 HU1.out)
    rw [← HR3.out] at HFB
    obtain ⟨cs, vr, hcs, hcl, hc1⟩ : ∃ (cs : List Value) (vr : Value), rv = .tuple #[.agg cs.toArray, vr] ∧ cs.length = 2 ∧ cs.toArray.all (·.oneCell') = true := by
      rw [HR3.out]
      unfold frR
      split
      · exact ⟨z2, _, rfl, rfl, by kernel_rfl⟩
      · exact ⟨[_, _], _, rfl, rfl, by kernel_rfl⟩
    rw [hcs] at HFB
    have HE := Hid.of hcs
    clear hcs HR3
    go_wp2_with fail
    refine (HBd.out).mono ?_
    rintro e w9 ⟨rfl, h9⟩
    obtain rfl := h9.symm
    clear h9
    dsimp only
    go_wp2_with fail
    refine HFB.out.mono ?_
    rintro e w6 ⟨rfl, h9⟩
    have HU6 := Hid.of (HU1.out.trans h9)
    have HZ6 := Hid.of (HZ1.out.up h9)
    clear h9
    dsimp only
    go_wp2_with (with_reducible show wpList _ _ _ ({ dst := _, op := Op.store 185 _ _, type := _, pos := _, after := _, guard := _ } :: _) _ _; refine Shut.out ?_)
    show wpList _ _ _ _ _ _
    refine wpList_store_at rfl 185 _ _ rfl (w.heap.size + 1) HZ6.out cs rfl rfl hcl (by rw [List.size_toArray, hcl]; kernel_rfl) hc1 ?_
    intro w8 hA8 hg8
    have HA8 := Hid.of hA8
    have HU8 := Hid.of (HU6.out.by hg8 (fun g hg => by have := Option.some.inj hg; omega))
    clear hA8 hg8
    simp only [Act.put]
    repeat go_step
    refine bodyPost_ret (result_cell_tmp Tryz.results123 _ _ (w.heap.size + 1) cs _ rfl rfl HA8.out.range Tryz.underlying185 rfl (by rw [hcl]; kernel_rfl)) rfl ?_
    rw [HE.out]
    exact ⟨rfl, HU8.out⟩
end Go.Proofs.YtabpgpbcnadgcaaGreatDoor
namespace Go.Proofs.YtabpgpbcnadgcaaGreatDoor
open Go.RowKit Go.Shelf TextNum
theorem exec_load5 {o : Oper} {ρ : Operand → Value} {x : Operand} {w : World} {b : Nat} {cs : List Value} (ho : o.op = .load 77 x) (hx : ρ x = .pointer (some ⟨b, 0, none⟩)) (h : w.rangeAt b 0 cs) (hl : (Tryz.prog.info? 77).map (·.size) = some cs.length := by kernel_rfl) : (execOp ρ o).run Tryz.prog w = .ok (.value (.agg cs.toArray)) w := by
  unfold execOp
  simp only [ho, hx]
  have := run_loadAt_mid (P := Tryz.prog) w b 0 77 cs _ h Tryz.underlying77 rfl hl
  simp [this]
/-- a response but for its body -/
structure Rs where
  st : Nat
  mi : Int
  fs : List FD
def rsg (st fl : List UInt8) : Er (Rs × Int × Nat) := match rsl st with
  | .error e => .error e
  | .ok (s, mi) => match rdf fl with
    | .error e => .error e
    | .ok fs => match rsF (s : Int) fs mi with
      | .error e => .error e
      | .ok (way, len) => .ok (⟨s, mi, fs⟩, way, len)
def rsP (l : List UInt8) : Er ((Rs × Bool × List UInt8) × Nat) := msg 3 rsg (fun x way b => (x, (way == 1) || cls (x.mi == 0) x.fs, b)) l
def rsV (x : Rs) (cl : Bool) (a : Option Addr) (c : Nat) (v : Value) : Value := .agg #[.int .i64 (x.st : Int), .int .i64 x.mi, .slice a x.fs.length c, v, .bool cl]
theorem rsV_eq {s : Nat} {mi : Int} {fs : List FD} {a : Option Addr} {c nf : Nat} {v : Value} {cl cl' : Bool} (h1 : fs.length = nf) (h2 : cl' = cl) : rsV ⟨s, mi, fs⟩ cl' a c v = .agg #[.int .i64 (s : Int), .int .i64 mi, .slice a nf c, v, .bool cl] := by
  unfold rsV
  dsimp only
  rw [h1, h2]
def RsR (ad : Nat → Addr) (w w' : World) (e : Ending) : Er ((Rs × Bool × List UInt8) × Nat) → Prop
  | .error k => e = .returned (.tuple #[.agg z5.toArray, .int .i64 0, erV ad k])
  | .ok ((x, cl, b), n) => ∃ a c v, e = .returned (.tuple #[rsV x cl a c v, .int .i64 (n : Int), .nilIface]) ∧ Hid (FdO w' w.heap.size a x.fs c ∧ Ow w' w.heap.size v b)
theorem RsR_ev {ad : Nat → Addr} {w w' : World} {k : Nat} (h : k < 12) : RsR ad w w' (.returned (.tuple #[.agg z5.toArray, .int .i64 0, ev (ad k)])) (.error k) := by
  show Ending.returned _ = Ending.returned _
  unfold erV
  rw [if_pos h]
theorem rsF_er {s : Int} {fs : List FD} {mi : Int} {k : Nat} (h : rsF s fs mi = .error k) : k < 12 := by
  unfold rsF at h
  split at h
  · cases h
  · have := frm_er h
    omega
theorem rsF_len {s : Int} {fs : List FD} {mi way : Int} {n : Nat} (h : rsF s fs mi = .ok (way, n)) : n ≤ 1048576 := by
  unfold rsF at h
  split at h
  · injection h with h; injection h with e1 e2; omega
  · exact frm_len h
set_option maxRecDepth 100000 in
set_option maxHeartbeats 4000000 in
theorem readResponse_walk (ad : Nat → Addr) {a : Option Addr} {n c : Nat} {ds : List UInt8} (hn40 : n ≤ 1099511627776) (w : World) (hS : Sb w (.slice a n c) ds) (hW : GW w ad) : Calls Tryz.prog 82 #[.slice a n c] w fun e w' => RsR ad w w' e (rsP ds) ∧ Up w w' := by
  have HW := Hid.of hW
  clear hW
  obtain ⟨hn, hnc, hcm⟩ := hS.len
  unfold maxLen at hcm
  have HN := Hid.of hn
  have HSb := Hid.of hS
  clear hn hS
  have HA0 := Hid.of (at_new w 77 z5)
  have HU0 := Hid.of ((Up.refl w).alloc (.cells z5.toArray 77))
  obtain ⟨rv, hrv⟩ : ∃ rv, rsP ds = rv := ⟨_, rfl⟩
  have HR := Hid.of hrv
  rw [hrv]
  clear hrv
  unfold rsP msg at HR
  go_enter Tryz.func82, Tryz.ntmps82
  go_wp2_with (with_reducible show wpList _ _ _ ({ dst := _, op := Op.load 106 _, type := _, pos := _, after := _, guard := _ } :: _) _ _; refine Shut.out ?_)
  show wpList _ _ _ _ _ _
  obtain ⟨w1, hw1⟩ : ∃ w1, w.alloc (.cells z5.toArray 77) = w1 := ⟨_, rfl⟩
  rw [hw1] at HA0 HU0
  change wpList _ _ _ _ _ (w.alloc (.cells z5.toArray 77))
  rw [hw1]
  clear hw1
  have hgl : w1.cell? ⟨3, 0, none⟩ = some (ev (ad 3)) := (HW.out.ge.up HU0.out).gl 3 (by decide)
  go_wp2_with fail
  refine (cutHead_walk ad 3 hn40 w1 (HSb.out.up HU0.out) (HW.out.ge.up HU0.out)).mono ?_
  rintro e w2 ⟨rfl, h9⟩
  have HU2 := Hid.of (HU0.out.trans h9)
  have HA2 := Hid.of (HA0.out.up h9)
  clear h9 hgl
  cases hc : cHd 3 ds with
  | error k =>
    rw [hc] at HR
    have HE := Hid.of (show rv = .error k from HR.out.symm)
    have hne := er_neq ad k
    have hge := er_grd ad k
    unfold hR z3
    dsimp only
    go_wp2_with (with_reducible show wpList _ _ _ ({ dst := _, op := Op.store 77 (Operand.tmp 2) _, type := _, pos := _, after := _, guard := _ } :: _) _ _; refine Shut.out ?_)
    show wpList _ _ _ _ _ _
    refine wpList_store_at rfl 77 _ _ rfl (w.heap.size) (HA2.out.up ((Up.refl w2).alloc _)) z5 rfl rfl rfl (by kernel_rfl) (by kernel_rfl) ?_
    intro w8 hA8 hg8
    have HA8 := Hid.of hA8
    have HU8 := Hid.of ((HU2.out.alloc _).by hg8 (fun g hg => by have := Option.some.inj hg; omega))
    clear hA8 hg8
    simp only [Act.put]
    repeat go_step
    refine bodyPost_ret (result_cell_tmp2 Tryz.results82 _ _ (w.heap.size) z5 _ _ rfl rfl rfl HA8.out.range Tryz.underlying77 rfl (by kernel_rfl)) rfl ?_
    rw [HE.out]
    exact ⟨rfl, HU8.out⟩
  | ok q =>
    obtain ⟨st, fl, k⟩ := q
    rw [hc] at HR
    have hck := cHd_ok hc
    have hkn : k ≤ n := by rw [HN.out]; exact hck.2.1
    have hst : st.length ≤ 8000 := hck.2.2.1
    have hfll : fl.length ≤ 16384 := hck.2.2.2.1
    unfold hR
    dsimp only at HR ⊢
    clear hck hc
    go_wp2_with fail
    obtain ⟨w3, hw3⟩ : ∃ w3, w2.alloc (.cells #[vs st, vs fl, .int .i64 (k : Int)] 177) = w3 := ⟨_, rfl⟩
    have HH3 := Hid.of (show At w3 w2.heap.size 177 [vs st, vs fl, .int .i64 (k : Int)] by rw [← hw3]; exact at_new w2 177 [vs st, vs fl, .int .i64 (k : Int)])
    have hu3 : Up w2 w3 := by rw [← hw3]; exact (Up.refl w2).alloc _
    have HU3 := Hid.of (HU2.out.trans hu3)
    have HA3 := Hid.of (HA2.out.up hu3)
    change Calls _ _ _ (w2.alloc (.cells #[vs st, vs fl, .int .i64 (k : Int)] 177)) _
    rw [hw3]
    clear hw3 hu3
    refine (readStatusLine_walk ad ⟨st.toArray⟩ (by rw [str_len]; omega) w3 (HW.out.up HU3.out).ge (HW.out.up HU3.out).gn).mono ?_
    rintro e w4 ⟨rfl, h9⟩
    have HU4 := Hid.of (HU3.out.trans h9)
    have HA4 := Hid.of (HA3.out.up h9)
    have HH4 := Hid.of (HH3.out.up h9)
    clear h9 HH3
    unfold rsg at HR
    cases hl : rsl st with
    | error e1 =>
      rw [hl] at HR
      have HE := Hid.of (show rv = .error e1 from HR.out.symm)
      have HK := Hid.of (rsl_er hl)
      unfold slR z5
      dsimp only
      go_wp2_with (with_reducible show wpList _ _ _ ({ dst := _, op := Op.store 77 (Operand.tmp 2) _, type := _, pos := _, after := _, guard := _ } :: _) _ _; refine Shut.out ?_)
      show wpList _ _ _ _ _ _
      refine wpList_store_at rfl 77 _ _ rfl (w.heap.size) (HA4.out.up ((Up.refl w4).alloc _)) z5 rfl rfl rfl (by kernel_rfl) (by kernel_rfl) ?_
      intro w8 hA8 hg8
      have HA8 := Hid.of hA8
      have HU8 := Hid.of ((HU4.out.alloc _).by hg8 (fun g hg => by have := Option.some.inj hg; omega))
      clear hA8 hg8
      simp only [Act.put]
      repeat go_step
      refine bodyPost_ret (result_cell_tmp2 Tryz.results82 _ _ (w.heap.size) z5 _ _ rfl rfl rfl HA8.out.range Tryz.underlying77 rfl (by kernel_rfl)) rfl ?_
      rw [HE.out]
      exact ⟨RsR_ev HK.out, HU8.out⟩
    | ok q1 =>
      obtain ⟨st0, mi⟩ := q1
      rw [hl] at HR
      unfold slR
      dsimp only at HR ⊢
      clear hl
      have HUw4 := Hid.of HU4.out
      have HUw4s := Hid.of (show w.heap.size < w4.heap.size from lt_of_at HA4.out)
      have h1 : (w4.alloc (.cells #[.int .i64 (st0 : Int), .int .i64 mi, .slice none 0 0, .slice none 0 0, .bool false] 77)).cell? ⟨w2.heap.size, 1, none⟩ = some (vs fl) := (HH4.out.up ((Up.refl w4).alloc _)).cell (i := 1) rfl
      go_wp2_with fail
      obtain ⟨w5, hw5⟩ : ∃ w5, w4.alloc (.cells #[.int .i64 (st0 : Int), .int .i64 mi, .slice none 0 0, .slice none 0 0, .bool false] 77) = w5 := ⟨_, rfl⟩
      have HR5 := Hid.of (show At w5 w4.heap.size 77 [.int .i64 (st0 : Int), .int .i64 mi, .slice none 0 0, .slice none 0 0, .bool false] by rw [← hw5]; exact at_new w4 77 [.int .i64 (st0 : Int), .int .i64 mi, .slice none 0 0, .slice none 0 0, .bool false])
      have hu5 : Up w4 w5 := by rw [← hw5]; exact (Up.refl w4).alloc _
      have HU5 := Hid.of (HU4.out.trans hu5)
      have HA5 := Hid.of (HA4.out.up hu5)
      have HH5 := Hid.of (HH4.out.up hu5)
      change Calls _ _ _ (w4.alloc (.cells #[.int .i64 (st0 : Int), .int .i64 mi, .slice none 0 0, .slice none 0 0, .bool false] 77)) _
      rw [hw5]
      clear hw5 hu5 h1
      refine (readFields_walk ad ⟨fl.toArray⟩ (by rw [str_len]; exact hfll) w5 (HW.out.up HU5.out).ge).mono ?_
      rintro e w6 ⟨hRd, h9⟩
      have HU6 := Hid.of (HU5.out.trans h9)
      have HA6 := Hid.of (HA5.out.up h9)
      have HH6 := Hid.of (HH5.out.up h9)
      have HR6 := Hid.of (HR5.out.up h9)
      clear h9
      have q3 : w6.cell? ⟨w4.heap.size, 2, none⟩ = some (.slice none 0 0) := HR6.out.cell (i := 2) rfl
      have p3 := HR6.out.thaw 2
      have hrne : w4.heap.size ≠ w.heap.size := by have := HUw4s.out; omega
      cases hd : rdf fl with
      | error e2 =>
        rw [hd] at HR
        have HE := Hid.of (show rv = .error e2 from HR.out.symm)
        have HK := Hid.of (rdf_er hd)
        rw [show (⟨fl.toArray⟩ : ByteArray).data.toList = fl from rfl, hd] at hRd
        obtain rfl : e = _ := hRd
        dsimp only
        have HG3 := Hid.of (grown_at w6 w4.heap.size 2 (.slice none 0 0))
        go_wp2_with (with_reducible show wpList _ _ _ ({ dst := _, op := Op.store 77 (Operand.tmp 2) _, type := _, pos := _, after := _, guard := _ } :: _) _ _; refine Shut.out ?_)
        show wpList _ _ _ _ _ _
        refine wpList_store_at rfl 77 _ _ rfl (w.heap.size) (HA6.out.by HG3.out (fun e => hrne (Option.some.inj e))) z5 rfl rfl rfl (by kernel_rfl) (by kernel_rfl) ?_
        intro w8 hA8 hg8
        have HA8 := Hid.of hA8
        have HU8 := Hid.of ((HU6.out.by HG3.out (fun g hg => by have := Option.some.inj hg; have := HUw4.out.size; omega)).by hg8 (fun g hg => by have := Option.some.inj hg; omega))
        clear hA8 hg8
        simp only [Act.put]
        repeat go_step
        refine bodyPost_ret (result_cell_tmp2 Tryz.results82 _ _ (w.heap.size) z5 _ _ rfl rfl rfl HA8.out.range Tryz.underlying77 rfl (by kernel_rfl)) rfl ?_
        rw [HE.out]
        exact ⟨RsR_ev HK.out, HU8.out⟩
      | ok fs =>
        rw [hd] at HR
        rw [show (⟨fl.toArray⟩ : ByteArray).data.toList = fl from rfl, hd] at hRd
        obtain ⟨af, cf, rfl, hFO⟩ := hRd
        have hsm := rdf_small hd
        have hfl2 : fs.length ≤ 1048576 := by omega
        have HSm := Hid.of (show ∀ f ∈ fs, f.v.size ≤ 1048576 from fun f hf => by have := (hsm.2 f hf).2; omega)
        clear hsm hd
        dsimp only at HR ⊢
        have HFO6 := Hid.of (ow_base hFO.out HU5.out.size)
        clear hFO
        obtain ⟨nf, hnf⟩ : ∃ nf, fs.length = nf := ⟨_, rfl⟩
        have HNf := Hid.of hnf
        rw [hnf] at HFO6 ⊢
        clear hnf
        have HG3 := Hid.of (grown_at w6 w4.heap.size 2 (.slice af nf cf))
        have HR7 := Hid.of (HR6.out.set 2 (.slice af nf cf))
        dsimp only [List.set_cons_zero, List.set_cons_succ] at HR7
        have HA7 := Hid.of (HA6.out.by HG3.out (fun e => hrne (Option.some.inj e)))
        have hhne := HH6.out.ne HR6.out (by decide)
        have HH7 := Hid.of (HH6.out.by HG3.out (fun e => hhne (Option.some.inj e).symm))
        have HU7 := Hid.of (HU6.out.by HG3.out (fun g hg => by have := Option.some.inj hg; have := HUw4.out.size; omega))
        have HFO7 := Hid.of (HFO6.out.kept HG3.out (.inr (own_ne HFO6.out HR6.out (by decide))))
        clear HG3 hhne HR6 HA6 HH6 HFO6
        go_wp2_with (with_reducible show wpList _ _ _ ({ dst := _, op := Op.load 77 _, type := _, pos := _, after := _, guard := _ } :: _) _ _; refine Shut.out ?_)
        show wpList _ _ _ _ _ _
        change wpList _ _ _ _ _ (w6.setCell ⟨w4.heap.size, 2, none⟩ (.slice af nf cf))
        obtain ⟨w7, hw7⟩ : ∃ w7, w6.setCell ⟨w4.heap.size, 2, none⟩ (.slice af nf cf) = w7 := ⟨_, rfl⟩
        rw [hw7] at HR7 HA7 HH7 HU7 HFO7 ⊢
        clear hw7 q3 p3
        refine wpList_load_mid rfl _ _ rfl w4.heap.size 0 rfl [.int .i64 (st0 : Int), .int .i64 mi, .slice af nf cf, .slice none 0 0, .bool false] _ HR7.out.range Tryz.underlying77 rfl (by kernel_rfl) ?_
        simp only [Act.put, List.setIfInBounds_toArray, List.set_cons_zero, List.set_cons_succ]
        have HFd := Hid.of (show FdL w7 af fs cf by have h := HFO7.out; rw [← HNf.out] at h; exact FdO.fdl h)
        have HFm := Hid.of (responseFraming_walk ad (st0 : Int) mi af fs cf nf (.slice none 0 0) false HNf.out w7 HFd.out hfl2 HSm.out (HW.out.up HU7.out).ge (HW.out.up HU7.out).kd (HW.out.up HU7.out).gp)
        go_wp2_with fail
        refine HFm.out.mono ?_
        rintro e w9 ⟨rfl, h9⟩
        have HU9 := Hid.of (HU7.out.trans h9)
        have HA9 := Hid.of (HA7.out.up h9)
        have HH9 := Hid.of (HH7.out.up h9)
        have HR9 := Hid.of (HR7.out.up h9)
        have HFO9 := Hid.of (ow_up HFO7.out h9)
        have HFd9 := Hid.of (HFd.out.up h9)
        clear h9 HFm
        cases hf0 : rsF (st0 : Int) fs mi with
        | error e4 =>
          rw [hf0] at HR
          have HE := Hid.of (show rv = .error e4 from HR.out.symm)
          have HK := Hid.of (rsF_er hf0)
          unfold frR z2
          dsimp only
          go_wp2_with (with_reducible show wpList _ _ _ ({ dst := _, op := Op.store 77 (Operand.tmp 2) _, type := _, pos := _, after := _, guard := _ } :: _) _ _; refine Shut.out ?_)
          show wpList _ _ _ _ _ _
          refine wpList_store_at rfl 77 _ _ rfl (w.heap.size) (HA9.out.up ((Up.refl w9).alloc _)) z5 rfl rfl rfl (by kernel_rfl) (by kernel_rfl) ?_
          intro w8 hA8 hg8
          have HA8 := Hid.of hA8
          have HU8 := Hid.of ((HU9.out.alloc _).by hg8 (fun g hg => by have := Option.some.inj hg; omega))
          clear hA8 hg8
          simp only [Act.put]
          repeat go_step
          refine bodyPost_ret (result_cell_tmp2 Tryz.results82 _ _ (w.heap.size) z5 _ _ rfl rfl rfl HA8.out.range Tryz.underlying77 rfl (by kernel_rfl)) rfl ?_
          rw [HE.out]
          exact ⟨RsR_ev HK.out, HU8.out⟩
        | ok q4 =>
          obtain ⟨way, len⟩ := q4
          rw [hf0] at HR
          have hlen := rsF_len hf0
          unfold frR
          dsimp only at HR ⊢
          clear hf0
          go_wp2
          obtain ⟨wA, hwA⟩ : ∃ wA, w9.alloc (.cells #[.int .i64 way, .int .i64 (len : Int)] 185) = wA := ⟨_, rfl⟩
          have HFA := Hid.of (show At wA w9.heap.size 185 [.int .i64 way, .int .i64 (len : Int)] by rw [← hwA]; exact at_new w9 185 [.int .i64 way, .int .i64 (len : Int)])
          have huA : Up w9 wA := by rw [← hwA]; exact (Up.refl w9).alloc _
          have HUA := Hid.of (HU9.out.trans huA)
          have HAA := Hid.of (HA9.out.up huA)
          have HHA := Hid.of (HH9.out.up huA)
          have HRA := Hid.of (HR9.out.up huA)
          have HFO := Hid.of (ow_up HFO9.out huA)
          have HFA2 := Hid.of (HFd9.out.up huA)
          change Code.wp _ _ _ _ (w9.alloc (.cells #[.int .i64 way, .int .i64 (len : Int)] 185))
          rw [hwA]
          clear hwA huA HU9 HA9 HH9 HR9 HFO9 HFd9
          have hSk := HSb.out.sub k n hkn (by rw [← HN.out]; exact Nat.le_refl _)
          rw [show (ds.take n).drop k = ds.drop k by rw [HN.out, List.take_length]] at hSk
          have HCt := Hid.of (fun (w2 : World) (hu : Up wA w2) => cut_walk ad way len (by omega) (by omega) w2 (hSk.up (HUA.out.trans hu)) (HW.out.up (HUA.out.trans hu)).ge)
          clear hSk
          have HRes := Hid.of (show ∀ r : Er ((Rs × Bool × List UInt8) × Nat), (match fcu way len (ds.drop k) with | .error e => .error e | .ok (b, n) => .ok ((⟨st0, mi, fs⟩, (way == 1) || cls (mi == 0) fs, b), k + n)) = r → rv = r from fun r hr => by
            rw [← HR.out, ← hr]
            cases fcu way len (ds.drop k) <;> rfl)
          clear HR
          refine wp_region_held_drew (S := fun w2 => Up wA w2) (by kernel_rfl) (Up.refl wA).drew (fun hS => ?_)
          refine wpAnyH_take (i := 0) (oi := { dst := some 52, op := Go.Op.load 185 (Go.Operand.tmp 8), type := 185, pos := "message.go:46", after := #[], guard := none }) (v := .agg #[.int .i64 way, .int .i64 (len : Int)]) rfl (by kernel_rfl) (by kernel_rfl) (by kernel_rfl) (fun _ _ _ h => h) (Or.inl ⟨by kernel_rfl, ?_⟩) hS ?_
          · intro w5 hSw
            have hf0 : w5.cell? ⟨w9.heap.size, 0, none⟩ = some (.int .i64 way) := hSw.cell (HFA.out.cell (i := 0) rfl)
            have hf1 : w5.cell? ⟨w9.heap.size, 1, none⟩ = some (.int .i64 (len : Int)) := hSw.cell (HFA.out.cell (i := 1) rfl)
            clear hSw hS
            go_simp
          simp only [Act.put, List.setIfInBounds_toArray, List.set_cons_zero, List.set_cons_succ]
          refine wpAnyH_take (i := 1) (oi := { dst := some 53, op := Go.Op.move (Go.Operand.tmp 0), type := 22, pos := "message.go:46", after := #[], guard := none }) (v := .slice a n c) rfl (by kernel_rfl) (by kernel_rfl) (by kernel_rfl) (fun _ _ _ h => h) (Or.inl ⟨by kernel_rfl, ?_⟩) hS ?_
          · intro w5 hSw
            clear hSw hS
            go_simp
          simp only [Act.put, List.setIfInBounds_toArray, List.set_cons_zero, List.set_cons_succ]
          refine wpAnyH_take (i := 2) (oi := { dst := some 54, op := Go.Op.fieldAddr 177 (Go.Operand.tmp 5) 2, type := 0, pos := "message.go:46", after := #[], guard := none }) (v := .pointer (some ⟨w2.heap.size, 2, none⟩)) rfl (by kernel_rfl) (by kernel_rfl) (by kernel_rfl) (fun _ _ _ h => h) (Or.inl ⟨by kernel_rfl, ?_⟩) hS ?_
          · intro w5 hSw
            clear hSw hS
            go_simp
          simp only [Act.put, List.setIfInBounds_toArray, List.set_cons_zero, List.set_cons_succ]
          refine wpAnyH_take (i := 3) (oi := { dst := some 55, op := Go.Op.load 3 (Go.Operand.tmp 54), type := 3, pos := "message.go:46", after := #[{ on := 2, ground := Go.Ground.data }], guard := none }) (v := .int .i64 (k : Int)) rfl (by kernel_rfl) (by kernel_rfl) (by kernel_rfl) (fun _ _ _ h => h) (Or.inl ⟨by kernel_rfl, ?_⟩) hS ?_
          · intro w5 hSw
            have hh2 : w5.cell? ⟨w2.heap.size, 2, none⟩ = some (.int .i64 (k : Int)) := hSw.cell (HHA.out.cell (i := 2) rfl)
            clear hSw hS
            go_simp
          simp only [Act.put, List.setIfInBounds_toArray, List.set_cons_zero, List.set_cons_succ]
          refine wpAnyH_take (i := 4) (oi := { dst := some 56, op := Go.Op.slice 22 (Go.Operand.tmp 53) (some (Go.Operand.tmp 55)) none none, type := 22, pos := "message.go:46", after := #[{ on := 1, ground := Go.Ground.data }, { on := 3, ground := Go.Ground.data }], guard := none }) (v := .slice (sv a c k) (n - k) (c - k)) rfl (by kernel_rfl) (by kernel_rfl) (by kernel_rfl) (fun _ _ _ h => h) (Or.inl ⟨by kernel_rfl, ?_⟩) hS ?_
          · intro w5 hSw
            clear hSw hS
            exact exec_sublo (by omega) rfl rfl rfl
          simp only [Act.put, List.setIfInBounds_toArray, List.set_cons_zero, List.set_cons_succ]
          refine wpAnyH_ready (rs := [5]) (by kernel_rfl) (by simp) ?_
          refine AllReadyH.cons (o := { dst := some 57, op := Go.Op.call { callee := Go.Callee.value (Go.Operand.func 119), args := #[Go.Operand.tmp 52, Go.Operand.tmp 56], argTypes := #[185, 22] }, type := 147, pos := "message.go:46", after := #[{ on := 0, ground := Go.Ground.data }, { on := 4, ground := Go.Ground.data }], guard := none }) rfl (fun K hK => ?_) AllReadyH.nil
          rw [if_pos (by kernel_rfl)]
          go_simp
          refine (HCt.out _ hS).mono ?_
          rintro e wB ⟨hUn, u5⟩
          have HSB := Hid.of (hS.trans u5)
          have HSs := Hid.of hS
          clear u5 hS
          cases hf : fcu way len (ds.drop k) with
          | error e9 =>
            rw [hf] at hUn
            obtain rfl : e = _ := hUn
            dsimp only
            refine hK.out _ _ HSB.out (fun hS => ?_)
            clear hK K
            refine wpAnyH_take (i := 6) (oi := { dst := some 51, op := Go.Op.move (Go.Operand.tmp 57), type := 147, pos := "message.go:46", after := #[{ on := 5, ground := Go.Ground.data }], guard := none }) (v := .tuple #[.slice none 0 0, .int .i64 0, erV ad e9]) rfl (by kernel_rfl) (by kernel_rfl) (by kernel_rfl) (fun _ _ _ h => h) (Or.inl ⟨by kernel_rfl, ?_⟩) hS ?_
            · intro w5 hSw
              clear hSw hS
              go_simp
            simp only [Act.put, List.setIfInBounds_toArray, List.set_cons_zero, List.set_cons_succ]
            refine wpAnyH_take (i := 7) (oi := { dst := some 58, op := Go.Op.extract (Go.Operand.tmp 51) 0, type := 22, pos := "message.go:46", after := #[{ on := 6, ground := Go.Ground.data }], guard := none }) (v := .slice none 0 0) rfl (by kernel_rfl) (by kernel_rfl) (by kernel_rfl) (fun _ _ _ h => h) (Or.inl ⟨by kernel_rfl, ?_⟩) hS ?_
            · intro w5 hSw
              clear hSw hS
              go_simp
            simp only [Act.put, List.setIfInBounds_toArray, List.set_cons_zero, List.set_cons_succ]
            refine wpAnyH_take (i := 8) (oi := { dst := some 59, op := Go.Op.extract (Go.Operand.tmp 51) 1, type := 3, pos := "message.go:46", after := #[{ on := 6, ground := Go.Ground.data }, { on := 10, ground := Go.Ground.gcOnly Go.Departure.lateStores }], guard := none }) (v := .int .i64 0) rfl (by kernel_rfl) (by kernel_rfl) (by kernel_rfl) (fun _ _ _ h => h) (Or.inl ⟨by kernel_rfl, ?_⟩) hS ?_
            · intro w5 hSw
              clear hSw hS
              go_simp
            simp only [Act.put, List.setIfInBounds_toArray, List.set_cons_zero, List.set_cons_succ]
            refine wpAnyH_take (i := 9) (oi := { dst := some 60, op := Go.Op.extract (Go.Operand.tmp 51) 2, type := 106, pos := "message.go:46", after := #[{ on := 6, ground := Go.Ground.data }, { on := 11, ground := Go.Ground.gcOnly Go.Departure.lateStores }], guard := none }) (v := erV ad e9) rfl (by kernel_rfl) (by kernel_rfl) (by kernel_rfl) (fun _ _ _ h => h) (Or.inl ⟨by kernel_rfl, ?_⟩) hS ?_
            · intro w5 hSw
              clear hSw hS
              go_simp
            simp only [Act.put, List.setIfInBounds_toArray, List.set_cons_zero, List.set_cons_succ]
            refine wpAnyH_take (i := 10) (oi := { dst := some 9, op := Go.Op.assign (Go.Operand.tmp 58), type := 22, pos := "message.go:46", after := #[{ on := 7, ground := Go.Ground.data }, { on := 5, ground := Go.Ground.chain }, { on := 0, ground := Go.Ground.phase }, { on := 1, ground := Go.Ground.phase }, { on := 2, ground := Go.Ground.phase }, { on := 3, ground := Go.Ground.phase }, { on := 4, ground := Go.Ground.phase }, { on := 5, ground := Go.Ground.phase }, { on := 6, ground := Go.Ground.phase }, { on := 7, ground := Go.Ground.phase }, { on := 8, ground := Go.Ground.textOnly Go.Departure.lateStores }, { on := 9, ground := Go.Ground.textOnly Go.Departure.lateStores }], guard := none }) (v := .slice none 0 0) rfl (by kernel_rfl) (by kernel_rfl) (by kernel_rfl) (fun _ _ _ h => h) (Or.inl ⟨by kernel_rfl, ?_⟩) hS ?_
            · intro w5 hSw
              clear hSw hS
              go_simp
            simp only [Act.put, List.setIfInBounds_toArray, List.set_cons_zero, List.set_cons_succ]
            refine wpAnyH_take (i := 11) (oi := { dst := some 10, op := Go.Op.assign (Go.Operand.tmp 59), type := 3, pos := "message.go:46", after := #[{ on := 8, ground := Go.Ground.data }, { on := 10, ground := Go.Ground.chain }, { on := 0, ground := Go.Ground.phase }, { on := 1, ground := Go.Ground.phase }, { on := 2, ground := Go.Ground.phase }, { on := 3, ground := Go.Ground.phase }, { on := 4, ground := Go.Ground.phase }, { on := 5, ground := Go.Ground.phase }, { on := 6, ground := Go.Ground.phase }, { on := 7, ground := Go.Ground.phase }, { on := 8, ground := Go.Ground.phase }, { on := 9, ground := Go.Ground.textOnly Go.Departure.lateStores }, { on := 10, ground := Go.Ground.phase }], guard := none }) (v := .int .i64 0) rfl (by kernel_rfl) (by kernel_rfl) (by kernel_rfl) (fun _ _ _ h => h) (Or.inl ⟨by kernel_rfl, ?_⟩) hS ?_
            · intro w5 hSw
              clear hSw hS
              go_simp
            simp only [Act.put, List.setIfInBounds_toArray, List.set_cons_zero, List.set_cons_succ]
            refine wpAnyH_take (i := 12) (oi := { dst := some 6, op := Go.Op.assign (Go.Operand.tmp 60), type := 106, pos := "message.go:46", after := #[{ on := 9, ground := Go.Ground.data }, { on := 11, ground := Go.Ground.chain }, { on := 0, ground := Go.Ground.phase }, { on := 1, ground := Go.Ground.phase }, { on := 2, ground := Go.Ground.phase }, { on := 3, ground := Go.Ground.phase }, { on := 4, ground := Go.Ground.phase }, { on := 5, ground := Go.Ground.phase }, { on := 6, ground := Go.Ground.phase }, { on := 7, ground := Go.Ground.phase }, { on := 8, ground := Go.Ground.phase }, { on := 9, ground := Go.Ground.phase }, { on := 10, ground := Go.Ground.phase }, { on := 11, ground := Go.Ground.phase }], guard := none }) (v := erV ad e9) rfl (by kernel_rfl) (by kernel_rfl) (by kernel_rfl) (fun _ _ _ h => h) (Or.inl ⟨by kernel_rfl, ?_⟩) hS ?_
            · intro w5 hSw
              clear hSw hS
              go_simp
            simp only [Act.put, List.setIfInBounds_toArray, List.set_cons_zero, List.set_cons_succ]
            clear hS
            refine wpAnyH_done (by kernel_rfl) ?_ _
            have hne := er_neq ad e9
            have hge := er_grd ad e9
            have HE := Hid.of (HRes.out (.error e9) (by rw [hf]))
            go_wp2_with (with_reducible show wpList _ _ _ ({ dst := _, op := Op.store 77 (Operand.tmp 2) _, type := _, pos := _, after := _, guard := _ } :: _) _ _; refine Shut.out ?_)
            show wpList _ _ _ _ _ _
            refine wpList_store_at rfl 77 _ _ rfl (w.heap.size) (HAA.out.up HSB.out) z5 rfl rfl rfl (by kernel_rfl) (by kernel_rfl) ?_
            intro w8 hA8 hg8
            have HA8 := Hid.of hA8
            have HU8 := Hid.of ((HUA.out.trans HSB.out).by hg8 (fun g hg => by have := Option.some.inj hg; omega))
            clear hA8 hg8
            simp only [Act.put]
            repeat go_step
            refine bodyPost_ret (result_cell_tmp2 Tryz.results82 _ _ (w.heap.size) z5 _ _ rfl rfl rfl HA8.out.range Tryz.underlying77 rfl (by kernel_rfl)) rfl ?_
            rw [HE.out]
            exact ⟨rfl, HU8.out⟩
          | ok q9 =>
            obtain ⟨bo, nb⟩ := q9
            rw [hf] at hUn
            obtain ⟨vB, rfl, hoB⟩ := hUn
            have HOB := Hid.of (ow_base hoB.out (Nat.le_trans HUA.out.size HSs.out.size))
            clear hoB
            dsimp only
            refine hK.out _ _ HSB.out (fun hS => ?_)
            clear hK K
            refine wpAnyH_take (i := 6) (oi := { dst := some 51, op := Go.Op.move (Go.Operand.tmp 57), type := 147, pos := "message.go:46", after := #[{ on := 5, ground := Go.Ground.data }], guard := none }) (v := .tuple #[vB, .int .i64 (nb : Int), .nilIface]) rfl (by kernel_rfl) (by kernel_rfl) (by kernel_rfl) (fun _ _ _ h => h) (Or.inl ⟨by kernel_rfl, ?_⟩) hS ?_
            · intro w5 hSw
              clear hSw hS
              go_simp
            simp only [Act.put, List.setIfInBounds_toArray, List.set_cons_zero, List.set_cons_succ]
            refine wpAnyH_take (i := 7) (oi := { dst := some 58, op := Go.Op.extract (Go.Operand.tmp 51) 0, type := 22, pos := "message.go:46", after := #[{ on := 6, ground := Go.Ground.data }], guard := none }) (v := vB) rfl (by kernel_rfl) (by kernel_rfl) (by kernel_rfl) (fun _ _ _ h => h) (Or.inl ⟨by kernel_rfl, ?_⟩) hS ?_
            · intro w5 hSw
              clear hSw hS
              go_simp
            simp only [Act.put, List.setIfInBounds_toArray, List.set_cons_zero, List.set_cons_succ]
            refine wpAnyH_take (i := 8) (oi := { dst := some 59, op := Go.Op.extract (Go.Operand.tmp 51) 1, type := 3, pos := "message.go:46", after := #[{ on := 6, ground := Go.Ground.data }, { on := 10, ground := Go.Ground.gcOnly Go.Departure.lateStores }], guard := none }) (v := .int .i64 (nb : Int)) rfl (by kernel_rfl) (by kernel_rfl) (by kernel_rfl) (fun _ _ _ h => h) (Or.inl ⟨by kernel_rfl, ?_⟩) hS ?_
            · intro w5 hSw
              clear hSw hS
              go_simp
            simp only [Act.put, List.setIfInBounds_toArray, List.set_cons_zero, List.set_cons_succ]
            refine wpAnyH_take (i := 9) (oi := { dst := some 60, op := Go.Op.extract (Go.Operand.tmp 51) 2, type := 106, pos := "message.go:46", after := #[{ on := 6, ground := Go.Ground.data }, { on := 11, ground := Go.Ground.gcOnly Go.Departure.lateStores }], guard := none }) (v := .nilIface) rfl (by kernel_rfl) (by kernel_rfl) (by kernel_rfl) (fun _ _ _ h => h) (Or.inl ⟨by kernel_rfl, ?_⟩) hS ?_
            · intro w5 hSw
              clear hSw hS
              go_simp
            simp only [Act.put, List.setIfInBounds_toArray, List.set_cons_zero, List.set_cons_succ]
            refine wpAnyH_take (i := 10) (oi := { dst := some 9, op := Go.Op.assign (Go.Operand.tmp 58), type := 22, pos := "message.go:46", after := #[{ on := 7, ground := Go.Ground.data }, { on := 5, ground := Go.Ground.chain }, { on := 0, ground := Go.Ground.phase }, { on := 1, ground := Go.Ground.phase }, { on := 2, ground := Go.Ground.phase }, { on := 3, ground := Go.Ground.phase }, { on := 4, ground := Go.Ground.phase }, { on := 5, ground := Go.Ground.phase }, { on := 6, ground := Go.Ground.phase }, { on := 7, ground := Go.Ground.phase }, { on := 8, ground := Go.Ground.textOnly Go.Departure.lateStores }, { on := 9, ground := Go.Ground.textOnly Go.Departure.lateStores }], guard := none }) (v := vB) rfl (by kernel_rfl) (by kernel_rfl) (by kernel_rfl) (fun _ _ _ h => h) (Or.inl ⟨by kernel_rfl, ?_⟩) hS ?_
            · intro w5 hSw
              clear hSw hS
              go_simp
            simp only [Act.put, List.setIfInBounds_toArray, List.set_cons_zero, List.set_cons_succ]
            refine wpAnyH_take (i := 11) (oi := { dst := some 10, op := Go.Op.assign (Go.Operand.tmp 59), type := 3, pos := "message.go:46", after := #[{ on := 8, ground := Go.Ground.data }, { on := 10, ground := Go.Ground.chain }, { on := 0, ground := Go.Ground.phase }, { on := 1, ground := Go.Ground.phase }, { on := 2, ground := Go.Ground.phase }, { on := 3, ground := Go.Ground.phase }, { on := 4, ground := Go.Ground.phase }, { on := 5, ground := Go.Ground.phase }, { on := 6, ground := Go.Ground.phase }, { on := 7, ground := Go.Ground.phase }, { on := 8, ground := Go.Ground.phase }, { on := 9, ground := Go.Ground.textOnly Go.Departure.lateStores }, { on := 10, ground := Go.Ground.phase }], guard := none }) (v := .int .i64 (nb : Int)) rfl (by kernel_rfl) (by kernel_rfl) (by kernel_rfl) (fun _ _ _ h => h) (Or.inl ⟨by kernel_rfl, ?_⟩) hS ?_
            · intro w5 hSw
              clear hSw hS
              go_simp
            simp only [Act.put, List.setIfInBounds_toArray, List.set_cons_zero, List.set_cons_succ]
            refine wpAnyH_take (i := 12) (oi := { dst := some 6, op := Go.Op.assign (Go.Operand.tmp 60), type := 106, pos := "message.go:46", after := #[{ on := 9, ground := Go.Ground.data }, { on := 11, ground := Go.Ground.chain }, { on := 0, ground := Go.Ground.phase }, { on := 1, ground := Go.Ground.phase }, { on := 2, ground := Go.Ground.phase }, { on := 3, ground := Go.Ground.phase }, { on := 4, ground := Go.Ground.phase }, { on := 5, ground := Go.Ground.phase }, { on := 6, ground := Go.Ground.phase }, { on := 7, ground := Go.Ground.phase }, { on := 8, ground := Go.Ground.phase }, { on := 9, ground := Go.Ground.phase }, { on := 10, ground := Go.Ground.phase }, { on := 11, ground := Go.Ground.phase }], guard := none }) (v := .nilIface) rfl (by kernel_rfl) (by kernel_rfl) (by kernel_rfl) (fun _ _ _ h => h) (Or.inl ⟨by kernel_rfl, ?_⟩) hS ?_
            · intro w5 hSw
              clear hSw hS
              go_simp
            simp only [Act.put, List.setIfInBounds_toArray, List.set_cons_zero, List.set_cons_succ]
            clear hS
            refine wpAnyH_done (by kernel_rfl) ?_ _
            have hfl := fcu_len hf
            rw [List.length_drop, ← HN.out] at hfl
            have hnb : nb ≤ n - k := hfl.1
            clear hfl
            have HE := Hid.of (HRes.out (.ok ((⟨st0, mi, fs⟩, (way == 1) || cls (mi == 0) fs, bo), k + nb)) (by rw [hf]))
            clear hf
            have HRB := Hid.of (HRA.out.up HSB.out)
            have HUB := Hid.of (HUA.out.trans HSB.out)
            have HFB := Hid.of (show FdL wB af fs cf by have h := HFA2.out.up HSB.out; exact h)
            obtain ⟨aB, nB, cB, rfl⟩ := Sb.shape (Ow.sb HOB.out)
            have k3 : wB.cell? ⟨w4.heap.size, 3, none⟩ = some (.slice none 0 0) := HRB.out.cell (i := 3) rfl
            have f3 := HRB.out.thaw 3
            have HG4 := Hid.of (grown_at wB w4.heap.size 3 (.slice aB nB cB))
            have HRD := Hid.of (HRB.out.set 3 (.slice aB nB cB))
            dsimp only [List.set_cons_zero, List.set_cons_succ] at HRD
            have HUD := Hid.of (HUB.out.by HG4.out (fun g hg => by have := Option.some.inj hg; have := HUw4.out.size; omega))
            have hrne : w4.heap.size ≠ w.heap.size := by have := HUw4s.out; omega
            have HAD := Hid.of ((HAA.out.up HSB.out).by HG4.out (fun e => hrne (Option.some.inj e)))
            have hhne := (HHA.out.up HSB.out).ne HRB.out (by decide)
            have HHD := Hid.of ((HHA.out.up HSB.out).by HG4.out (fun e => hhne (Option.some.inj e).symm))
            have hmne := (HFA.out.up HSB.out).ne HRB.out (by decide)
            have HMD := Hid.of ((HFA.out.up HSB.out).by HG4.out (fun e => hmne (Option.some.inj e).symm))
            have HFD := Hid.of ((ow_up HFO.out HSB.out).kept HG4.out (.inr (own_ne (ow_up HFO.out HSB.out) HRB.out (by decide))))
            have HOD := Hid.of (HOB.out.kept HG4.out (.inr (own_ne HOB.out HRB.out (by decide))))
            have HFL := Hid.of (show FdL (wB.setCell ⟨w4.heap.size, 3, none⟩ (.slice aB nB cB)) af fs cf by have h := HFD.out; rw [← HNf.out] at h; exact FdO.fdl h)
            clear hrne hhne hmne HG4
            have hf0 : (wB.setCell ⟨w4.heap.size, 3, none⟩ (.slice aB nB cB)).cell? ⟨w9.heap.size, 0, none⟩ = some (.int .i64 way) := HMD.out.cell (i := 0) rfl
            cases hw : (way == 1) with
            | true =>
              have HCv := Hid.of (show ((way == 1) || cls (mi == 0) fs) = true by rw [hw]; rfl)
              go_wp2_with (with_reducible show wpList _ _ _ ({ dst := _, op := Op.store 4 _ _, type := _, pos := _, after := _, guard := _ } :: _) _ _; refine Shut.out ?_)
              show wpList _ _ _ _ _ _
              change wpList _ _ _ _ _ (wB.setCell ⟨w4.heap.size, 3, none⟩ (.slice aB nB cB))
              generalize wB.setCell ⟨w4.heap.size, 3, none⟩ (.slice aB nB cB) = wD at *
              clear hw
              have HRC := Hid.of HRD.out
              have HUC := Hid.of HUD.out
              have HAC := Hid.of HAD.out
              have HHC := Hid.of HHD.out
              have HFC := Hid.of HFD.out
              have HOC := Hid.of HOD.out
              have f0 : wD.cell? ⟨w9.heap.size, 0, none⟩ = some (.int .i64 way) := HMD.out.cell (i := 0) rfl
              have k4 : wD.cell? ⟨w4.heap.size, 4, none⟩ = some (.bool false) := HRC.out.cell (i := 4) rfl
              have f4 := HRC.out.thaw 4
              go_wp2
              have HG5 := Hid.of (grown_at wD w4.heap.size 4 (.bool true))
              have HRE := Hid.of (HRC.out.set 4 (.bool true))
              have HUE := Hid.of (HUC.out.by HG5.out (fun g hg => by have := Option.some.inj hg; have := HUw4.out.size; omega))
              have hrne : w4.heap.size ≠ w.heap.size := by have := HUw4s.out; omega
              have HAE := Hid.of (HAC.out.by HG5.out (fun e => hrne (Option.some.inj e)))
              have hhne := HHC.out.ne HRC.out (by decide)
              have HHE := Hid.of (HHC.out.by HG5.out (fun e => hhne (Option.some.inj e).symm))
              have HFE := Hid.of (HFC.out.kept HG5.out (.inr (own_ne HFC.out HRC.out (by decide))))
              have HOE := Hid.of (HOC.out.kept HG5.out (.inr (own_ne HOC.out HRC.out (by decide))))
              clear HG5 k4 f4 hrne hhne
              generalize wD.setCell ⟨w4.heap.size, 4, none⟩ (.bool true) = wE at *
              dsimp only [List.set_cons_zero, List.set_cons_succ] at HRE
              have hone : ([.int .i64 (st0 : Int), .int .i64 mi, .slice af nf cf, Value.slice aB nB cB, .bool true] : List Value).toArray.all (·.oneCell') = true := by kernel_rfl
              refine wp_region_held_drew (S := fun wS => (∃ cs, cs.length = 5 ∧ At wS w.heap.size 77 cs) ∧ At wS w4.heap.size 77 [.int .i64 (st0 : Int), .int .i64 mi, .slice af nf cf, (.slice aB nB cB), .bool true] ∧ At wS w2.heap.size 177 [vs st, vs fl, .int .i64 (k : Int)] ∧ wS.ownsRow w.heap.size 89 2 (.slice af nf cf) nf (fdc fs) ∧ Ow wS w.heap.size (.slice aB nB cB) bo ∧ Up w wS) (by kernel_rfl) ⟨⟨z5, rfl, HAE.out.up (Up.refl _).drew⟩, HRE.out.up (Up.refl _).drew, HHE.out.up (Up.refl _).drew, ow_up HFE.out (Up.refl _).drew, ow_up HOE.out (Up.refl _).drew, HUE.out.drew⟩ (fun hS => ?_)
              refine wpAnyH_take (i := 0) (oi := { dst := some 78, op := Go.Op.load 77 (Go.Operand.tmp 7), type := 77, pos := "message.go:52", after := #[], guard := none }) (v := .agg [.int .i64 (st0 : Int), .int .i64 mi, .slice af nf cf, (.slice aB nB cB), .bool true].toArray) rfl (by kernel_rfl) (by kernel_rfl) (by kernel_rfl) (fun _ _ _ h => h) (Or.inl ⟨by kernel_rfl, ?_⟩) hS ?_
              · intro w5 hSw
                have hld := hSw.2.1.range
                clear hS
                clear hSw
                exact exec_load5 rfl rfl hld
              simp only [Act.put, List.setIfInBounds_toArray, List.set_cons_zero, List.set_cons_succ]
              refine wpAnyH_take (i := 1) (oi := { dst := some 79, op := Go.Op.fieldAddr 177 (Go.Operand.tmp 5) 2, type := 0, pos := "message.go:52", after := #[{ on := 5, ground := Go.Ground.gcOnly Go.Departure.lateStores }], guard := none }) (v := .pointer (some ⟨w2.heap.size, 2, none⟩)) rfl (by kernel_rfl) (by kernel_rfl) (by kernel_rfl) (fun _ _ _ h => h) (Or.inl ⟨by kernel_rfl, ?_⟩) hS ?_
              · intro w5 hSw
                clear hSw hS
                go_simp
              simp only [Act.put, List.setIfInBounds_toArray, List.set_cons_zero, List.set_cons_succ]
              refine wpAnyH_take (i := 2) (oi := { dst := some 80, op := Go.Op.load 3 (Go.Operand.tmp 79), type := 3, pos := "message.go:52", after := #[{ on := 1, ground := Go.Ground.data }, { on := 5, ground := Go.Ground.gcOnly Go.Departure.lateStores }], guard := none }) (v := .int .i64 (k : Int)) rfl (by kernel_rfl) (by kernel_rfl) (by kernel_rfl) (fun _ _ _ h => h) (Or.inl ⟨by kernel_rfl, ?_⟩) hS ?_
              · intro w5 hSw
                have hh2 : w5.cell? ⟨w2.heap.size, 2, none⟩ = some (.int .i64 (k : Int)) := hSw.2.2.1.cell (i := 2) rfl
                clear hSw hS
                go_simp
              simp only [Act.put, List.setIfInBounds_toArray, List.set_cons_zero, List.set_cons_succ]
              refine wpAnyH_take (i := 3) (oi := { dst := some 81, op := Go.Op.move (Go.Operand.tmp 10), type := 3, pos := "message.go:52", after := #[{ on := 5, ground := Go.Ground.gcOnly Go.Departure.lateStores }], guard := none }) (v := .int .i64 (nb : Int)) rfl (by kernel_rfl) (by kernel_rfl) (by kernel_rfl) (fun _ _ _ h => h) (Or.inl ⟨by kernel_rfl, ?_⟩) hS ?_
              · intro w5 hSw
                clear hSw hS
                go_simp
              simp only [Act.put, List.setIfInBounds_toArray, List.set_cons_zero, List.set_cons_succ]
              refine wpAnyH_take (i := 4) (oi := { dst := some 82, op := Go.Op.binOp Go.BinOp.add 3 (Go.Operand.tmp 80) (Go.Operand.tmp 81) 3, type := 3, pos := "message.go:52", after := #[{ on := 2, ground := Go.Ground.data }, { on := 3, ground := Go.Ground.data }, { on := 5, ground := Go.Ground.gcOnly Go.Departure.lateStores }], guard := none }) (v := .int .i64 ((k + nb : Nat) : Int)) rfl (by kernel_rfl) (by kernel_rfl) (by kernel_rfl) (fun _ _ _ h => h) (Or.inl ⟨by kernel_rfl, ?_⟩) hS ?_
              · intro w5 hSw
                clear hSw hS
                go_simp
                exact wrapk _ (by omega) (by omega)
              simp only [Act.put, List.setIfInBounds_toArray, List.set_cons_zero, List.set_cons_succ]
              refine wpAnyH_ready (rs := [5]) (by kernel_rfl) (by simp) ?_
              refine AllReadyH.cons (o := { dst := none, op := Go.Op.store 77 (Go.Operand.tmp 2) (Go.Operand.tmp 78), type := 0, pos := "message.go:52", after := #[{ on := 0, ground := Go.Ground.data }, { on := 0, ground := Go.Ground.phase }, { on := 1, ground := Go.Ground.textOnly Go.Departure.lateStores }, { on := 2, ground := Go.Ground.textOnly Go.Departure.lateStores }, { on := 3, ground := Go.Ground.textOnly Go.Departure.lateStores }, { on := 4, ground := Go.Ground.textOnly Go.Departure.lateStores }], guard := none }) rfl (fun K hK => oper_of_list ?_) AllReadyH.nil
              obtain ⟨⟨cs, hcl, hcs2⟩, hS1, hS2, hS3, hS4, hS5⟩ := hS
              refine wpList_store_at rfl 77 _ _ rfl (w.heap.size) hcs2 [.int .i64 (st0 : Int), .int .i64 mi, .slice af nf cf, (.slice aB nB cB), .bool true] rfl rfl hcl.symm (by kernel_rfl) hone ?_
              intro w8 hA8 hg8
              have HA8 := Hid.of hA8
              have HU8 := Hid.of (hS5.by hg8 (fun g hg => by have := Option.some.inj hg; omega))
              have HF8 := Hid.of (hS3.kept hg8 (.inr (own_ne hS3 hcs2 (by decide))))
              have HO8 := Hid.of (hS4.kept hg8 (.inr (own_ne hS4 hcs2 (by decide))))
              have HR8 := Hid.of (hS1.by hg8 (by have := hS1.ne hcs2; intro e; have := Option.some.inj e; omega))
              have HH8 := Hid.of (hS2.by hg8 (by have := hS2.ne hcs2 (by decide); intro e; have := Option.some.inj e; omega))
              clear hA8 hg8 hcs2 hS2 hS1 hS3 hS4 hS5
              refine hK.out _ _ ⟨⟨_, rfl, HA8.out⟩, HR8.out, HH8.out, HF8.out, HO8.out, HU8.out⟩ (fun hS => ?_)
              clear hK K
              refine wpAnyH_take (i := 6) (oi := { dst := some 3, op := Go.Op.assign (Go.Operand.tmp 82), type := 3, pos := "message.go:52", after := #[{ on := 4, ground := Go.Ground.data }, { on := 5, ground := Go.Ground.chain }, { on := 0, ground := Go.Ground.phase }, { on := 1, ground := Go.Ground.phase }, { on := 2, ground := Go.Ground.phase }, { on := 3, ground := Go.Ground.phase }, { on := 4, ground := Go.Ground.phase }, { on := 5, ground := Go.Ground.phase }], guard := none }) (v := .int .i64 ((k + nb : Nat) : Int)) rfl (by kernel_rfl) (by kernel_rfl) (by kernel_rfl) (fun _ _ _ h => h) (Or.inl ⟨by kernel_rfl, ?_⟩) hS ?_
              · intro w5 hSw
                clear hSw hS
                go_simp
              simp only [Act.put, List.setIfInBounds_toArray, List.set_cons_zero, List.set_cons_succ]
              refine wpAnyH_take (i := 7) (oi := { dst := some 4, op := Go.Op.assign (Go.Operand.const Go.Value.nilIface), type := 106, pos := "message.go:52", after := #[{ on := 6, ground := Go.Ground.chain }, { on := 0, ground := Go.Ground.phase }, { on := 1, ground := Go.Ground.phase }, { on := 2, ground := Go.Ground.phase }, { on := 3, ground := Go.Ground.phase }, { on := 4, ground := Go.Ground.phase }, { on := 5, ground := Go.Ground.phase }, { on := 6, ground := Go.Ground.phase }], guard := none }) (v := .nilIface) rfl (by kernel_rfl) (by kernel_rfl) (by kernel_rfl) (fun _ _ _ h => h) (Or.inl ⟨by kernel_rfl, ?_⟩) hS ?_
              · intro w5 hSw
                clear hSw hS
                go_simp
              simp only [Act.put, List.setIfInBounds_toArray, List.set_cons_zero, List.set_cons_succ]
              clear hS
              refine wpAnyH_done (by kernel_rfl) ?_ _
              repeat go_step
              refine bodyPost_ret (result_cell_tmp2 Tryz.results82 _ _ (w.heap.size) [.int .i64 (st0 : Int), .int .i64 mi, .slice af nf cf, (.slice aB nB cB), .bool true] _ _ rfl rfl rfl HA8.out.range Tryz.underlying77 rfl (by kernel_rfl)) rfl ?_
              rw [HE.out]
              exact ⟨⟨af, cf, .slice aB nB cB, congrArg (fun x => Ending.returned (.tuple #[x, .int .i64 ((k + nb : Nat) : Int), .nilIface])) (rsV_eq HNf.out HCv.out).symm, Hid.of ⟨by unfold FdO; rw [HNf.out]; exact HF8.out, HO8.out⟩⟩, HU8.out⟩
            | false =>
              have r1 : (wB.setCell ⟨w4.heap.size, 3, none⟩ (.slice aB nB cB)).cell? ⟨w4.heap.size, 1, none⟩ = some (.int .i64 mi) := HRD.out.cell (i := 1) rfl
              have r2 : (wB.setCell ⟨w4.heap.size, 3, none⟩ (.slice aB nB cB)).cell? ⟨w4.heap.size, 2, none⟩ = some (.slice af nf cf) := HRD.out.cell (i := 2) rfl
              go_wp2_with fail
              change Calls _ _ _ (wB.setCell ⟨w4.heap.size, 3, none⟩ (.slice aB nB cB)) _
              generalize wB.setCell ⟨w4.heap.size, 3, none⟩ (.slice aB nB cB) = wD at *
              have HCs := Hid.of (closes_walk af fs cf mi wD HFL.out hfl2 HSm.out (HW.out.up HUD.out).kd (HW.out.up HUD.out).gm)
              rw [HNf.out] at HCs
              obtain ⟨clv, hclv⟩ : ∃ clv, cls (mi == 0) fs = clv := ⟨_, rfl⟩
              have HCv := Hid.of (show ((way == 1) || cls (mi == 0) fs) = clv by rw [hw, hclv]; rfl)
              rw [hclv] at HCs
              clear hclv hw r1 r2
              refine HCs.out.mono ?_
              rintro e wC ⟨rfl, uC⟩
              have HUC := Hid.of (HUD.out.trans uC)
              have HRC := Hid.of (HRD.out.up uC)
              have HAC := Hid.of (HAD.out.up uC)
              have HHC := Hid.of (HHD.out.up uC)
              have HFC := Hid.of (ow_up HFD.out uC)
              have HOC := Hid.of (ow_up HOD.out uC)
              clear uC
              dsimp only
              have k4 : wC.cell? ⟨w4.heap.size, 4, none⟩ = some (.bool false) := HRC.out.cell (i := 4) rfl
              have f4 := HRC.out.thaw 4
              go_wp2
              have HG5 := Hid.of (grown_at wC w4.heap.size 4 (.bool clv))
              have HRE := Hid.of (HRC.out.set 4 (.bool clv))
              have HUE := Hid.of (HUC.out.by HG5.out (fun g hg => by have := Option.some.inj hg; have := HUw4.out.size; omega))
              have hrne : w4.heap.size ≠ w.heap.size := by have := HUw4s.out; omega
              have HAE := Hid.of (HAC.out.by HG5.out (fun e => hrne (Option.some.inj e)))
              have hhne := HHC.out.ne HRC.out (by decide)
              have HHE := Hid.of (HHC.out.by HG5.out (fun e => hhne (Option.some.inj e).symm))
              have HFE := Hid.of (HFC.out.kept HG5.out (.inr (own_ne HFC.out HRC.out (by decide))))
              have HOE := Hid.of (HOC.out.kept HG5.out (.inr (own_ne HOC.out HRC.out (by decide))))
              clear HG5 k4 f4 hrne hhne
              generalize wC.setCell ⟨w4.heap.size, 4, none⟩ (.bool clv) = wE at *
              dsimp only [List.set_cons_zero, List.set_cons_succ] at HRE
              have hone : ([.int .i64 (st0 : Int), .int .i64 mi, .slice af nf cf, Value.slice aB nB cB, .bool clv] : List Value).toArray.all (·.oneCell') = true := by kernel_rfl
              refine wp_region_held_drew (S := fun wS => (∃ cs, cs.length = 5 ∧ At wS w.heap.size 77 cs) ∧ At wS w4.heap.size 77 [.int .i64 (st0 : Int), .int .i64 mi, .slice af nf cf, (.slice aB nB cB), .bool clv] ∧ At wS w2.heap.size 177 [vs st, vs fl, .int .i64 (k : Int)] ∧ wS.ownsRow w.heap.size 89 2 (.slice af nf cf) nf (fdc fs) ∧ Ow wS w.heap.size (.slice aB nB cB) bo ∧ Up w wS) (by kernel_rfl) ⟨⟨z5, rfl, HAE.out.up (Up.refl _).drew⟩, HRE.out.up (Up.refl _).drew, HHE.out.up (Up.refl _).drew, ow_up HFE.out (Up.refl _).drew, ow_up HOE.out (Up.refl _).drew, HUE.out.drew⟩ (fun hS => ?_)
              refine wpAnyH_take (i := 0) (oi := { dst := some 78, op := Go.Op.load 77 (Go.Operand.tmp 7), type := 77, pos := "message.go:52", after := #[], guard := none }) (v := .agg [.int .i64 (st0 : Int), .int .i64 mi, .slice af nf cf, (.slice aB nB cB), .bool clv].toArray) rfl (by kernel_rfl) (by kernel_rfl) (by kernel_rfl) (fun _ _ _ h => h) (Or.inl ⟨by kernel_rfl, ?_⟩) hS ?_
              · intro w5 hSw
                have hld := hSw.2.1.range
                clear hS
                clear hSw
                exact exec_load5 rfl rfl hld
              simp only [Act.put, List.setIfInBounds_toArray, List.set_cons_zero, List.set_cons_succ]
              refine wpAnyH_take (i := 1) (oi := { dst := some 79, op := Go.Op.fieldAddr 177 (Go.Operand.tmp 5) 2, type := 0, pos := "message.go:52", after := #[{ on := 5, ground := Go.Ground.gcOnly Go.Departure.lateStores }], guard := none }) (v := .pointer (some ⟨w2.heap.size, 2, none⟩)) rfl (by kernel_rfl) (by kernel_rfl) (by kernel_rfl) (fun _ _ _ h => h) (Or.inl ⟨by kernel_rfl, ?_⟩) hS ?_
              · intro w5 hSw
                clear hSw hS
                go_simp
              simp only [Act.put, List.setIfInBounds_toArray, List.set_cons_zero, List.set_cons_succ]
              refine wpAnyH_take (i := 2) (oi := { dst := some 80, op := Go.Op.load 3 (Go.Operand.tmp 79), type := 3, pos := "message.go:52", after := #[{ on := 1, ground := Go.Ground.data }, { on := 5, ground := Go.Ground.gcOnly Go.Departure.lateStores }], guard := none }) (v := .int .i64 (k : Int)) rfl (by kernel_rfl) (by kernel_rfl) (by kernel_rfl) (fun _ _ _ h => h) (Or.inl ⟨by kernel_rfl, ?_⟩) hS ?_
              · intro w5 hSw
                have hh2 : w5.cell? ⟨w2.heap.size, 2, none⟩ = some (.int .i64 (k : Int)) := hSw.2.2.1.cell (i := 2) rfl
                clear hSw hS
                go_simp
              simp only [Act.put, List.setIfInBounds_toArray, List.set_cons_zero, List.set_cons_succ]
              refine wpAnyH_take (i := 3) (oi := { dst := some 81, op := Go.Op.move (Go.Operand.tmp 10), type := 3, pos := "message.go:52", after := #[{ on := 5, ground := Go.Ground.gcOnly Go.Departure.lateStores }], guard := none }) (v := .int .i64 (nb : Int)) rfl (by kernel_rfl) (by kernel_rfl) (by kernel_rfl) (fun _ _ _ h => h) (Or.inl ⟨by kernel_rfl, ?_⟩) hS ?_
              · intro w5 hSw
                clear hSw hS
                go_simp
              simp only [Act.put, List.setIfInBounds_toArray, List.set_cons_zero, List.set_cons_succ]
              refine wpAnyH_take (i := 4) (oi := { dst := some 82, op := Go.Op.binOp Go.BinOp.add 3 (Go.Operand.tmp 80) (Go.Operand.tmp 81) 3, type := 3, pos := "message.go:52", after := #[{ on := 2, ground := Go.Ground.data }, { on := 3, ground := Go.Ground.data }, { on := 5, ground := Go.Ground.gcOnly Go.Departure.lateStores }], guard := none }) (v := .int .i64 ((k + nb : Nat) : Int)) rfl (by kernel_rfl) (by kernel_rfl) (by kernel_rfl) (fun _ _ _ h => h) (Or.inl ⟨by kernel_rfl, ?_⟩) hS ?_
              · intro w5 hSw
                clear hSw hS
                go_simp
                exact wrapk _ (by omega) (by omega)
              simp only [Act.put, List.setIfInBounds_toArray, List.set_cons_zero, List.set_cons_succ]
              refine wpAnyH_ready (rs := [5]) (by kernel_rfl) (by simp) ?_
              refine AllReadyH.cons (o := { dst := none, op := Go.Op.store 77 (Go.Operand.tmp 2) (Go.Operand.tmp 78), type := 0, pos := "message.go:52", after := #[{ on := 0, ground := Go.Ground.data }, { on := 0, ground := Go.Ground.phase }, { on := 1, ground := Go.Ground.textOnly Go.Departure.lateStores }, { on := 2, ground := Go.Ground.textOnly Go.Departure.lateStores }, { on := 3, ground := Go.Ground.textOnly Go.Departure.lateStores }, { on := 4, ground := Go.Ground.textOnly Go.Departure.lateStores }], guard := none }) rfl (fun K hK => oper_of_list ?_) AllReadyH.nil
              obtain ⟨⟨cs, hcl, hcs2⟩, hS1, hS2, hS3, hS4, hS5⟩ := hS
              refine wpList_store_at rfl 77 _ _ rfl (w.heap.size) hcs2 [.int .i64 (st0 : Int), .int .i64 mi, .slice af nf cf, (.slice aB nB cB), .bool clv] rfl rfl hcl.symm (by kernel_rfl) hone ?_
              intro w8 hA8 hg8
              have HA8 := Hid.of hA8
              have HU8 := Hid.of (hS5.by hg8 (fun g hg => by have := Option.some.inj hg; omega))
              have HF8 := Hid.of (hS3.kept hg8 (.inr (own_ne hS3 hcs2 (by decide))))
              have HO8 := Hid.of (hS4.kept hg8 (.inr (own_ne hS4 hcs2 (by decide))))
              have HR8 := Hid.of (hS1.by hg8 (by have := hS1.ne hcs2; intro e; have := Option.some.inj e; omega))
              have HH8 := Hid.of (hS2.by hg8 (by have := hS2.ne hcs2 (by decide); intro e; have := Option.some.inj e; omega))
              clear hA8 hg8 hcs2 hS2 hS1 hS3 hS4 hS5
              refine hK.out _ _ ⟨⟨_, rfl, HA8.out⟩, HR8.out, HH8.out, HF8.out, HO8.out, HU8.out⟩ (fun hS => ?_)
              clear hK K
              refine wpAnyH_take (i := 6) (oi := { dst := some 3, op := Go.Op.assign (Go.Operand.tmp 82), type := 3, pos := "message.go:52", after := #[{ on := 4, ground := Go.Ground.data }, { on := 5, ground := Go.Ground.chain }, { on := 0, ground := Go.Ground.phase }, { on := 1, ground := Go.Ground.phase }, { on := 2, ground := Go.Ground.phase }, { on := 3, ground := Go.Ground.phase }, { on := 4, ground := Go.Ground.phase }, { on := 5, ground := Go.Ground.phase }], guard := none }) (v := .int .i64 ((k + nb : Nat) : Int)) rfl (by kernel_rfl) (by kernel_rfl) (by kernel_rfl) (fun _ _ _ h => h) (Or.inl ⟨by kernel_rfl, ?_⟩) hS ?_
              · intro w5 hSw
                clear hSw hS
                go_simp
              simp only [Act.put, List.setIfInBounds_toArray, List.set_cons_zero, List.set_cons_succ]
              refine wpAnyH_take (i := 7) (oi := { dst := some 4, op := Go.Op.assign (Go.Operand.const Go.Value.nilIface), type := 106, pos := "message.go:52", after := #[{ on := 6, ground := Go.Ground.chain }, { on := 0, ground := Go.Ground.phase }, { on := 1, ground := Go.Ground.phase }, { on := 2, ground := Go.Ground.phase }, { on := 3, ground := Go.Ground.phase }, { on := 4, ground := Go.Ground.phase }, { on := 5, ground := Go.Ground.phase }, { on := 6, ground := Go.Ground.phase }], guard := none }) (v := .nilIface) rfl (by kernel_rfl) (by kernel_rfl) (by kernel_rfl) (fun _ _ _ h => h) (Or.inl ⟨by kernel_rfl, ?_⟩) hS ?_
              · intro w5 hSw
                clear hSw hS
                go_simp
              simp only [Act.put, List.setIfInBounds_toArray, List.set_cons_zero, List.set_cons_succ]
              clear hS
              refine wpAnyH_done (by kernel_rfl) ?_ _
              repeat go_step
              refine bodyPost_ret (result_cell_tmp2 Tryz.results82 _ _ (w.heap.size) [.int .i64 (st0 : Int), .int .i64 mi, .slice af nf cf, (.slice aB nB cB), .bool clv] _ _ rfl rfl rfl HA8.out.range Tryz.underlying77 rfl (by kernel_rfl)) rfl ?_
              rw [HE.out]
              exact ⟨⟨af, cf, .slice aB nB cB, congrArg (fun x => Ending.returned (.tuple #[x, .int .i64 ((k + nb : Nat) : Int), .nilIface])) (rsV_eq HNf.out HCv.out).symm, Hid.of ⟨by unfold FdO; rw [HNf.out]; exact HF8.out, HO8.out⟩⟩, HU8.out⟩
end Go.Proofs.YtabpgpbcnadgcaaGreatDoor
namespace Go.Proofs.YtabpgpbcnadgcaaGreatDoor
open Go.RowKit Go.Shelf TextNum
def coN : ByteArray := ⟨#[99, 111, 110, 110, 101, 99, 116, 105, 111, 110]⟩
theorem isc_lws (f : FD) : (kdf f.n == 3) = (lws f.n.data.toList == tew.data.toList) := by
  unfold kdf kdp
  generalize lws f.n.data.toList = x
  by_cases h1 : x = lws (kdT.getD 0 (⟨#[]⟩, 0)).1.data.toList
  · subst h1; decide +kernel
  · by_cases h2 : x = lws (kdT.getD 1 (⟨#[]⟩, 0)).1.data.toList
    · subst h2; decide +kernel
    · by_cases h3 : x = lws (kdT.getD 2 (⟨#[]⟩, 0)).1.data.toList
      · subst h3; decide +kernel
      · by_cases h4 : x = lws (kdT.getD 3 (⟨#[]⟩, 0)).1.data.toList
        · subst h4; decide +kernel
        · have e1 : lws (kdT.getD 2 (⟨#[]⟩, 0)).1.data.toList = tew.data.toList := by decide +kernel
          have hf : kdT.find? (fun p => lws p.1.data.toList == x) = none := by
            rw [List.find?_eq_none]
            intro p hp
            rw [beq_iff_eq]
            intro e
            have hk : kdT = [kdT.getD 0 (⟨#[]⟩, 0), kdT.getD 1 (⟨#[]⟩, 0), kdT.getD 2 (⟨#[]⟩, 0), kdT.getD 3 (⟨#[]⟩, 0)] := rfl
            rw [hk] at hp
            simp only [List.mem_cons, List.not_mem_nil, or_false] at hp
            rcases hp with rfl | rfl | rfl | rfl
            · exact h1 e.symm
            · exact h2 e.symm
            · exact h3 e.symm
            · exact h4 e.symm
          rw [e1] at h3
          rw [hf]
          simp [h3]
theorem ist_lws (f : FD) : (kdf f.n == 4) = (lws f.n.data.toList == clw.data.toList) := by
  unfold kdf kdp
  generalize lws f.n.data.toList = x
  by_cases h1 : x = lws (kdT.getD 0 (⟨#[]⟩, 0)).1.data.toList
  · subst h1; decide +kernel
  · by_cases h2 : x = lws (kdT.getD 1 (⟨#[]⟩, 0)).1.data.toList
    · subst h2; decide +kernel
    · by_cases h3 : x = lws (kdT.getD 2 (⟨#[]⟩, 0)).1.data.toList
      · subst h3; decide +kernel
      · by_cases h4 : x = lws (kdT.getD 3 (⟨#[]⟩, 0)).1.data.toList
        · subst h4; decide +kernel
        · have e1 : lws (kdT.getD 3 (⟨#[]⟩, 0)).1.data.toList = clw.data.toList := by decide +kernel
          have hf : kdT.find? (fun p => lws p.1.data.toList == x) = none := by
            rw [List.find?_eq_none]
            intro p hp
            rw [beq_iff_eq]
            intro e
            have hk : kdT = [kdT.getD 0 (⟨#[]⟩, 0), kdT.getD 1 (⟨#[]⟩, 0), kdT.getD 2 (⟨#[]⟩, 0), kdT.getD 3 (⟨#[]⟩, 0)] := rfl
            rw [hk] at hp
            simp only [List.mem_cons, List.not_mem_nil, or_false] at hp
            rcases hp with rfl | rfl | rfl | rfl
            · exact h1 e.symm
            · exact h2 e.symm
            · exact h3 e.symm
            · exact h4 e.symm
          rw [e1] at h4
          rw [hf]
          simp [h4]
theorem isk_lws (f : FD) : (kdf f.n == 2) = (lws f.n.data.toList == coN.data.toList) := by
  unfold kdf kdp
  generalize lws f.n.data.toList = x
  by_cases h1 : x = lws (kdT.getD 0 (⟨#[]⟩, 0)).1.data.toList
  · subst h1; decide +kernel
  · by_cases h2 : x = lws (kdT.getD 1 (⟨#[]⟩, 0)).1.data.toList
    · subst h2; decide +kernel
    · by_cases h3 : x = lws (kdT.getD 2 (⟨#[]⟩, 0)).1.data.toList
      · subst h3; decide +kernel
      · by_cases h4 : x = lws (kdT.getD 3 (⟨#[]⟩, 0)).1.data.toList
        · subst h4; decide +kernel
        · have e1 : lws (kdT.getD 1 (⟨#[]⟩, 0)).1.data.toList = coN.data.toList := by decide +kernel
          have hf : kdT.find? (fun p => lws p.1.data.toList == x) = none := by
            rw [List.find?_eq_none]
            intro p hp
            rw [beq_iff_eq]
            intro e
            have hk : kdT = [kdT.getD 0 (⟨#[]⟩, 0), kdT.getD 1 (⟨#[]⟩, 0), kdT.getD 2 (⟨#[]⟩, 0), kdT.getD 3 (⟨#[]⟩, 0)] := rfl
            rw [hk] at hp
            simp only [List.mem_cons, List.not_mem_nil, or_false] at hp
            rcases hp with rfl | rfl | rfl | rfl
            · exact h1 e.symm
            · exact h2 e.symm
            · exact h3 e.symm
            · exact h4 e.symm
          rw [e1] at h2
          rw [hf]
          simp [h2]
/-- a number by its digits -/
def dgl (l : List UInt8) : Er Int := if isN l = true then (if nv l ≤ 1048576 then .ok (nv l : Int) else .error 7) else .error 5
/-- rule 9 -/
def rln (fs : List FD) (mi : Int) : Er Int := match alv fs tew, alv fs clw with
  | a :: r, t => if mi = 0 ∨ r ≠ [] ∨ lws a.data.toList ≠ chw.data.toList ∨ t ≠ [] then .error 5 else .ok (-2)
  | [], [] => .ok (-1)
  | [], [s] => dgl s.data.toList
  | [], _ :: _ :: _ => .error 5
theorem frl_dgl {s : List UInt8} (h : s.length ≤ 1048576) : frl s = match dgl s with | .error k => .error k | .ok n => .ok (2, n.toNat) := by
  unfold frl dgl
  by_cases hN : isN s = true
  · by_cases hv : nv s ≤ 1048576
    · have hp : prs s 1048576 = ((nv s : Int), 0) := by unfold prs; rw [if_neg (by omega), if_pos hN, if_pos ⟨by omega, by omega⟩]
      rw [hp, if_pos hN, if_pos hv]
      rfl
    · have hp : prs s 1048576 = (0, 63) := by unfold prs; rw [if_neg (by omega), if_pos hN, if_neg (fun e => hv (by omega))]
      rw [hp, if_pos hN, if_neg hv]
      rfl
  · have hp : prs s 1048576 = (0, 62) := by unfold prs; rw [if_neg (by omega), if_neg hN]
    rw [hp, if_neg hN]
    rfl
theorem chw_low : lws chw.data.toList = chw.data.toList := by decide
theorem filt_any (p q : FD → Bool) (fs : List FD) : fs.any (fun f => p f && q f) = (fs.filter p).any q := by
  induction fs with
  | nil => rfl
  | cons f r ih =>
    rw [List.any_cons, ih, List.filter_cons]
    cases hp : p f <;> simp
theorem frm_rln (fs : List FD) (mi u : Int) (hs : ∀ f ∈ fs, f.v.size ≤ 1048576) : frm fs mi u = match rln fs mi with
    | .error k => .error k
    | .ok n => if n = -2 then .ok (3, 0) else if n = -1 then .ok (u, 0) else .ok (2, n.toNat) := by
  have hA : alv fs tew = (fs.filter isc).map (·.v) := by
    unfold alv
    congr 2
    funext f
    rw [← isc_lws]
    rfl
  have hB : alv fs clw = (fs.filter fun f => kdf f.n == 4).map (·.v) := by
    unfold alv
    congr 2
    funext f
    rw [← ist_lws]
  have hC : fs.countP tls = (fs.filter isc).length + (fs.filter fun f => kdf f.n == 4).length := by
    clear hA hB hs
    induction fs with
    | nil => rfl
    | cons f r ih =>
      rw [List.countP_cons, ih, List.filter_cons, List.filter_cons]
      unfold tls isc
      by_cases h3 : (kdf f.n == 3) = true
      · have h4 : (kdf f.n == 4) = false := by rw [beq_iff_eq.1 h3]; rfl
        simp [h3, h4]; omega
      · rw [Bool.not_eq_true] at h3
        by_cases h4 : (kdf f.n == 4) = true
        · simp [h3, h4]; omega
        · rw [Bool.not_eq_true] at h4
          simp [h3, h4]
  have hD : fs.any (bdc mi) = (fs.filter isc).any fun f => (mi == 0 || !(lws f.v.data.toList == lws chw.data.toList)) := filt_any isc (fun f => (mi == 0 || !(lws f.v.data.toList == lws chw.data.toList))) fs
  have hE : fs.any isc = !(fs.filter isc).isEmpty := by
    clear hA hB hs hC hD
    induction fs with
    | nil => rfl
    | cons f r ih =>
      rw [List.any_cons, ih, List.filter_cons]
      cases isc f <;> simp
  have hL : fs.filter isc = [] → fs.filter tls = fs.filter fun f => kdf f.n == 4 := by
    intro h
    refine List.filter_congr (fun f hf => ?_)
    have h1 := List.filter_eq_nil_iff.1 h f hf
    unfold tls
    unfold isc at h1
    rw [Bool.not_eq_true] at h1
    rw [h1, Bool.false_or]
  have hS : ∀ f ∈ fs.filter (fun f => kdf f.n == 4), f.v.size ≤ 1048576 := fun f hf => hs f (List.mem_filter.1 hf).1
  unfold frm rln lst
  rw [hA, hB, hC, hD, hE]
  generalize hgA : fs.filter isc = A at *
  generalize hgB : (fs.filter fun f => kdf f.n == 4) = B at *
  clear hA hB hC hD hE hgA hgB hs
  cases A with
  | nil =>
    rw [hL rfl]
    cases B with
    | nil => rfl
    | cons b B =>
      cases B with
      | nil =>
        have h1 := hS b (by simp)
        simp only [List.any_nil, Bool.false_eq_true, if_false, List.length_nil, List.length_cons, Nat.zero_add, Nat.lt_irrefl, List.isEmpty_nil, Bool.not_true, List.getLast?_singleton, List.map_nil, List.map_cons]
        rw [if_neg (by decide), frl_dgl (by rw [← Go.Lib.size_eq]; exact h1)]
        unfold dgl
        split
        · rename_i e; split at e
          · split at e
            · cases e
            · injection e with e; subst e; rfl
          · injection e with e; subst e; rfl
        · rename_i n e; split at e
          · split at e
            · injection e with e; subst e
              rw [if_neg (by omega), if_neg (by omega)]
            · cases e
          · cases e
      | cons b' B =>
        simp only [List.any_nil, Bool.false_eq_true, if_false, List.length_nil, List.length_cons, List.map_nil, List.map_cons]
        rw [if_pos (by omega)]
  | cons a A =>
    by_cases hmi : mi = 0
    · subst hmi
      simp
    · have hz : (mi == 0) = false := by rw [beq_eq_false_iff_ne]; exact hmi
      rw [hz, chw_low]
      by_cases ha : lws a.v.data.toList = chw.data.toList
      · have ha2 : (lws a.v.data.toList == chw.data.toList) = true := by rw [beq_iff_eq]; exact ha
        cases A with
        | nil =>
          cases B with
          | nil => simp [hmi, ha]
          | cons b B => simp [ha2]
        | cons a' A => simp; intros; omega
      · have ha2 : (lws a.v.data.toList == chw.data.toList) = false := by rw [beq_eq_false_iff_ne]; exact ha
        simp [ha2, ha]
/-- the words of a Connection field -/
def cld (l : List UInt8) : Bool := lws (trm l) == wcl.data.toList
def kpa (l : List UInt8) : Bool := lws (trm l) == wka.data.toList
def cwd (fs : List FD) : List (List UInt8) := (alv fs coN).flatMap fun v => pcs 44 v.data.toList
theorem wcl_low : lws wcl.data.toList = wcl.data.toList := by decide
theorem wka_low : lws wka.data.toList = wka.data.toList := by decide
theorem wrd_any : ∀ (c : Bool) (l : List ByteArray), wrd c l = if (l.map (·.data.toList)).any cld = true then (true, true) else (if (l.map (·.data.toList)).any kpa = true then false else c, false)
  | c, [] => rfl
  | c, x :: r => by
    rw [wrd, wcl_low, wka_low, wrd_any]
    rw [List.map_cons, List.any_cons, List.any_cons]
    change (if cld x.data.toList = true then (true, true) else if (r.map (·.data.toList)).any cld = true then (true, true) else (if (r.map (·.data.toList)).any kpa = true then false else if kpa x.data.toList = true then false else c, false)) = _
    cases cld x.data.toList <;> cases (r.map (·.data.toList)).any cld <;> cases (r.map (·.data.toList)).any kpa <;> cases kpa x.data.toList <;> simp
theorem sps_pcs (v : ByteArray) : (sps v).map (·.data.toList) = pcs 44 v.data.toList := by
  unfold sps
  rw [Go.Lib.splitB_data]
  show Go.Lib.splitK [44] 0 (Go.Lib.count v.data.toList [44]) v.data.toList = _
  refine splitK_pcs 44 _ _ ?_
  unfold Go.Lib.count
  rw [count_one 44 _ _ (Nat.lt_succ_self _)]
  exact Nat.le_refl _
theorem cls_ref : ∀ (c : Bool) (fs : List FD), cls c fs = ((cwd fs).any cld || (c && !(cwd fs).any kpa))
  | c, [] => by simp [cls, cwd, alv]
  | c, f :: r => by
    rw [cls, isk_lws]
    have e : cwd (f :: r) = (if (lws f.n.data.toList == coN.data.toList) = true then pcs 44 f.v.data.toList else []) ++ cwd r := by
      unfold cwd alv
      rw [List.filter_cons]
      cases (lws f.n.data.toList == coN.data.toList) <;> simp
    rw [e, List.any_append, List.any_append]
    cases hk : (lws f.n.data.toList == coN.data.toList) with
    | false =>
      rw [if_neg (by simp), if_neg (by simp), cls_ref c r]
      rfl
    | true =>
      rw [if_pos rfl, if_pos rfl, wrd_any, sps_pcs]
      cases h1 : (pcs 44 f.v.data.toList).any cld with
      | true => simp
      | false =>
        simp only [Bool.false_eq_true, if_false, Bool.false_or]
        rw [cls_ref]
        cases (pcs 44 f.v.data.toList).any kpa <;> simp
/-- a response's first line is of the form, but for its version -/
def sok (l : List UInt8) : Bool := (decide (12 ≤ l.length) && (l.getD 8 0 == 32 && (isD (l.getD 9 0) && (isD (l.getD 10 0) && isD (l.getD 11 0))))) && (decide (l.length = 12) || (l.getD 12 0 == 32 && vlu (l.drop 12)))
def stn (l : List UInt8) : Nat := 100 * ((l.getD 9 0).toNat - 48) + 10 * ((l.getD 10 0).toNat - 48) + ((l.getD 11 0).toNat - 48)
theorem isD_32 {x : UInt8} (h : isD x = true) : x ≠ 32 := by
  rintro rfl
  revert h
  decide
theorem three_of {s : List UInt8} (h : rsO s = true) : ∃ a b c, isD a = true ∧ isD b = true ∧ isD c = true ∧ s = [a, b, c] := by
  unfold rsO at h
  rw [Bool.and_eq_true, decide_eq_true_eq] at h
  obtain ⟨h1, h2⟩ := h
  match s, h1 with
  | [a, b, c], _ =>
    simp only [List.all_cons, List.all_nil, Bool.and_true, Bool.and_eq_true] at h2
    exact ⟨a, b, c, h2.1, h2.2.1, h2.2.2, rfl⟩
theorem cut_no32 {l : List UInt8} (h : (32 : UInt8) ∉ l) : c1 32 l = l ∧ c2 32 l = [] := by
  rcases cut_cases 32 l with ⟨_, hc⟩ | ⟨a, b, hn, rfl, hc⟩
  · unfold c1 c2; rw [hc]; exact ⟨rfl, rfl⟩
  · exact absurd (by simp) h
theorem cut_32 {a : List UInt8} (b : List UInt8) (h : (32 : UInt8) ∉ a) : c1 32 (a ++ 32 :: b) = a ∧ c2 32 (a ++ 32 :: b) = b := by
  rcases cut_cases 32 (a ++ 32 :: b) with ⟨hn, hc⟩ | ⟨a', b', hn, e, hc⟩
  · exact absurd (by simp) hn
  · have h1 := pcs_cut b h
    rw [e, pcs_cut b' hn] at h1
    injection h1 with h1 _
    subst h1
    have h2 := List.append_cancel_left e
    injection h2 with _ h2
    unfold c1 c2
    rw [hc]
    exact ⟨rfl, h2.symm⟩
theorem vok_len {d : List UInt8} (h : vok d = true) : d.length = 8 := by
  obtain ⟨x, y, _, _, rfl⟩ := vok_form h
  rfl
theorem sok_form {l : List UInt8} (h : sok l = true) : ∃ a b c t, isD a = true ∧ isD b = true ∧ isD c = true ∧ l = l.take 8 ++ 32 :: a :: b :: c :: t ∧ (l.take 8).length = 8 ∧ (t = [] ∨ ∃ r, t = 32 :: r ∧ vlu r = true) := by
  unfold sok at h
  simp only [Bool.and_eq_true, decide_eq_true_eq, Bool.or_eq_true, beq_iff_eq] at h
  obtain ⟨⟨h12, h8, h9, h10, h11⟩, ht⟩ := h
  have g : ∀ i (hi : i < l.length), l.getD i 0 = l[i] := fun i hi => by rw [List.getD_eq_getElem?_getD, List.getElem?_eq_getElem hi]; rfl
  rw [g 8 (by omega)] at h8
  rw [g 9 (by omega)] at h9
  rw [g 10 (by omega)] at h10
  rw [g 11 (by omega)] at h11
  refine ⟨l[9]'(by omega), l[10]'(by omega), l[11]'(by omega), l.drop 12, h9, h10, h11, ?_, by rw [List.length_take]; omega, ?_⟩
  · conv => lhs; rw [← List.take_append_drop 8 l]
    rw [List.drop_eq_getElem_cons (show 8 < l.length by omega), List.drop_eq_getElem_cons (show 9 < l.length by omega), List.drop_eq_getElem_cons (show 10 < l.length by omega), List.drop_eq_getElem_cons (show 11 < l.length by omega), h8]
  · rcases ht with ht | ⟨hb, hv⟩
    · left; exact List.drop_eq_nil_of_le (by omega)
    · by_cases hl : l.length = 12
      · left; exact List.drop_eq_nil_of_le (by omega)
      · right
        rw [g 12 (by omega)] at hb
        rw [List.drop_eq_getElem_cons (show 12 < l.length by omega), hb] at hv ⊢
        refine ⟨_, rfl, ?_⟩
        unfold vlu at hv ⊢
        rw [List.all_cons, Bool.and_eq_true] at hv
        exact hv.2
theorem sok_of {v t : List UInt8} {a b c : UInt8} (hv : v.length = 8) (ha : isD a = true) (hb : isD b = true) (hc : isD c = true) (ht : t = [] ∨ ∃ r, t = 32 :: r ∧ vlu r = true) : sok (v ++ 32 :: a :: b :: c :: t) = true ∧ (v ++ 32 :: a :: b :: c :: t).take 8 = v ∧ stn (v ++ 32 :: a :: b :: c :: t) = nv [a, b, c] := by
  match v, hv with
  | [v0, v1, v2, v3', v4, v5, v6, v7], _ =>
    refine ⟨?_, rfl, ?_⟩
    · unfold sok
      show (decide (12 ≤ t.length + 4 + 8) && ((32 : UInt8) == 32 && (isD a && (isD b && isD c))) && (decide (t.length + 4 + 8 = 12) || (t.getD 0 0 == 32 && vlu t))) = true
      rw [ha, hb, hc]
      rcases ht with rfl | ⟨r, rfl, hr⟩
      · decide
      · have : vlu (32 :: r) = true := by unfold vlu at hr ⊢; rw [List.all_cons, hr]; decide
        rw [this]
        simp
    · show 100 * (a.toNat - 48) + 10 * (b.toNat - 48) + (c.toNat - 48) = nv [a, b, c]
      have h1 := isD_nat ha
      have h2 := isD_nat hb
      have h3 := isD_nat hc
      unfold nv nvf
      simp only [List.foldl_cons, List.foldl_nil]
      omega
theorem rsl_ref (l : List UInt8) : rsl l = if (sok l && vok (l.take 8)) = false then .error 3 else if ¬ ((vrs (l.take 8)).1 = 1 ∧ (vrs (l.take 8)).2 ≤ 1) then .error 4 else if sto (stn l : Int) = false then .error 11 else .ok (stn l, (vrs (l.take 8)).2) := by
  cases hs : (sok l && vok (l.take 8)) with
  | true =>
    rw [Bool.and_eq_true] at hs
    obtain ⟨hs, hv⟩ := hs
    obtain ⟨a, b, c, t, ha, hb, hc, hl, h8, ht⟩ := sok_form hs
    generalize l.take 8 = v at *
    subst hl
    have hn := vok_32 hv
    obtain ⟨e1, e2⟩ := cut_32 (a :: b :: c :: t) hn
    obtain ⟨_, _, hst⟩ := sok_of h8 ha hb hc ht
    have hn3 : (32 : UInt8) ∉ [a, b, c] := by
      intro hm
      simp only [List.mem_cons, List.not_mem_nil, or_false] at hm
      rcases hm with e | e | e
      · exact isD_32 ha e.symm
      · exact isD_32 hb e.symm
      · exact isD_32 hc e.symm
    have e3 : c1 32 (a :: b :: c :: t) = [a, b, c] ∧ vlu (c2 32 (a :: b :: c :: t)) = true := by
      rcases ht with rfl | ⟨r, rfl, hr⟩
      · obtain ⟨k1, k2⟩ := cut_no32 hn3
        rw [k1, k2]
        exact ⟨rfl, rfl⟩
      · obtain ⟨k1, k2⟩ := cut_32 r hn3
        exact ⟨k1, by rw [show a :: b :: c :: 32 :: r = [a, b, c] ++ 32 :: r from rfl, k2]; exact hr⟩
    have hO : rsO [a, b, c] = true := by unfold rsO; simp [ha, hb, hc]
    unfold rsl
    rw [e1, e2, e3.1, e3.2, hO, hv, hst, if_neg (by simp), if_neg (by simp), mno_vrs hv]
    have hN : rsN [a, b, c] = nv [a, b, c] := by unfold rsN; rw [if_pos hO]
    rw [hN]
    by_cases hk : (vrs v).1 = 1 ∧ (vrs v).2 ≤ 1
    · rw [if_pos hk, if_neg (fun e => e hk)]
    · rw [if_neg hk, if_pos hk]
  | false =>
    rw [if_pos rfl]
    unfold rsl
    rw [if_pos]
    cases hb : (rsO (c1 32 (c2 32 l)) && (vok (c1 32 l) && vlu (c2 32 (c2 32 l)))) with
    | false => rfl
    | true =>
      exfalso
      simp only [Bool.and_eq_true] at hb
      obtain ⟨h1, h2, h3⟩ := hb
      rcases cut_cases 32 l with ⟨hn, hc⟩ | ⟨v, r, hn, rfl, hc⟩
      · have e2 : c2 32 l = [] := by unfold c2; rw [hc]
        rw [e2, (cut_no32 (l := []) (by simp)).1] at h1
        revert h1
        decide
      · obtain ⟨k1, k2⟩ := cut_32 r hn
        rw [k2] at h1 h3
        rw [k1] at h2
        have hv8 := vok_len h2
        rcases cut_cases 32 r with ⟨hn2, hc2⟩ | ⟨s, t, hn2, rfl, hc2⟩
        · rw [(cut_no32 hn2).1] at h1
          obtain ⟨a, b, c, ha, hb, hc3, rfl⟩ := three_of h1
          obtain ⟨k3, k4, _⟩ := sok_of (t := []) hv8 ha hb hc3 (.inl rfl)
          rw [k3, k4, h2] at hs
          cases hs
        · obtain ⟨k5, k6⟩ := cut_32 t hn2
          rw [k5] at h1
          rw [k6] at h3
          obtain ⟨a, b, c, ha, hb, hc3, rfl⟩ := three_of h1
          obtain ⟨k3, k4, _⟩ := sok_of (t := 32 :: t) hv8 ha hb hc3 (.inr ⟨t, rfl, h3⟩)
          have e : v ++ 32 :: ([a, b, c] ++ 32 :: t) = v ++ 32 :: a :: b :: c :: 32 :: t := rfl
          rw [e, k3, k4, h2] at hs
          cases hs
end Go.Proofs.YtabpgpbcnadgcaaGreatDoor
namespace Go.Proofs.YtabpgpbcnadgcaaGreatDoor
open Go.RowKit Go.Shelf TextNum
theorem vok8 {l : List UInt8} (h : l.length = 8) : vok l = ((l.take 5 == htp.data.toList) && (isD (l[5]'(by omega)) && ((l[6]'(by omega)) == 46 && isD (l[7]'(by omega))))) := by
  match l, h with
  | [a, b, c, d, e, f, g, i], _ =>
    unfold vok Go.Lib.hasPrefix
    have h1 : (htp.data.toList.isPrefixOf [a, b, c, d, e, f, g, i]) = ([a, b, c, d, e] == htp.data.toList) := by
      rw [Bool.eq_iff_iff, List.isPrefixOf_iff_prefix, beq_iff_eq]
      constructor
      · rintro ⟨t, ht⟩
        have h2 := congrArg (List.take 5) ht
        exact h2.symm
      · intro he
        exact ⟨[f, g, i], by rw [← he]; rfl⟩
    rw [h1]
    show (_ && v3 [f, g, i]) = _
    simp only [v3, Bool.and_assoc]
    rfl
theorem vok_len8 {d : List UInt8} (h : vok d = true) : d.length = 8 := by
  obtain ⟨x, y, _, _, rfl⟩ := vok_form h
  rfl
theorem neU {x : UInt8} {k : Int} {c : UInt8} (hk : (c.toNat : Int) = k) (h : x ≠ c) : ((x.toNat : Int) != k) = true := by
  rw [bne_iff_ne]
  intro e
  exact h (UInt8.toNat_inj.1 (by omega))
set_option maxRecDepth 100000 in
set_option maxHeartbeats 2000000 in
theorem Rversion_walk (s : ByteArray) (w : World) : Calls Tryz.prog 75 #[.string s] w fun e w' => e = .returned (.tuple #[.int .i64 (vrs s.data.toList).1, .int .i64 (vrs s.data.toList).2]) ∧ Up w w' := by
  have HS := Hid.of (Go.Lib.size_eq s)
  obtain ⟨rv, hrv⟩ : ∃ rv, vrs s.data.toList = rv := ⟨_, rfl⟩
  have HR := Hid.of hrv
  rw [hrv]
  clear hrv
  have HNo := Hid.of (show vok s.data.toList = false → rv = (-1, -1) from fun h => by
    rw [← HR.out]
    unfold vrs
    rw [h]
    rfl)
  by_cases h8 : s.size = 8
  · have h8z : ((s.size : Int) != 8) = false := by rw [h8]; rfl
    have h8s : (s.size : Int) = 8 := by omega
    have hL8 : s.data.toList.length = 8 := by rw [← HS.out]; exact h8
    have HV := Hid.of (vok8 hL8)
    have hg5 := sget' s 5 (by omega)
    have hg6 := sget' s 6 (by omega)
    have hg7 := sget' s 7 (by omega)
    have HVal := Hid.of (show vok s.data.toList = true → rv = (((s.data.toList[5]'(by omega)).toNat : Int) - 48, ((s.data.toList[7]'(by omega)).toNat : Int) - 48) from fun h => by
      rw [← HR.out]
      unfold vrs
      rw [if_pos h, List.getD_eq_getElem?_getD, List.getD_eq_getElem?_getD, List.getElem?_eq_getElem (by omega), List.getElem?_eq_getElem (by omega)]
      rfl)
    have HP := Hid.of (show ((s.extract 0 5).toList == [72, 84, 84, 80, 47]) = (s.data.toList.take 5 == htp.data.toList) by rw [Go.Lib.toList_data, Go.Lib.extract_from_zero]; rfl)
    obtain ⟨P, hP⟩ : ∃ P, (s.data.toList.take 5 == htp.data.toList) = P := ⟨_, rfl⟩
    rw [hP] at HV HP
    clear hP
    generalize s.data.toList[5]'(by omega) = x5 at *
    generalize s.data.toList[6]'(by omega) = x6 at *
    generalize s.data.toList[7]'(by omega) = x7 at *
    clear HR hL8
    have hP := HP.out
    clear HP
    cases P with
    | false =>
      have HE := Hid.of (HNo.out (by rw [HV.out]; rfl))
      go_enter Tryz.func75, Tryz.ntmps75
      go_wp2
      go_ret2
      rw [HE.out]
      exact ⟨rfl, Up.refl _⟩
    | true =>
      have HD5 := Hid.of (Rdigit_walk x5 w)
      have HD7 := Hid.of (Rdigit_walk x7 w)
      go_enter Tryz.func75, Tryz.ntmps75
      go_wp2_with fail
      refine HD5.out.mono ?_
      rintro e w9 ⟨rfl, h9⟩
      obtain rfl := h9.symm
      clear h9
      dsimp only
      cases h5 : isD x5 with
      | false =>
        have HE := Hid.of (HNo.out (by rw [HV.out, h5]; rfl))
        go_wp2
        go_ret2
        rw [HE.out]
        exact ⟨rfl, Up.refl _⟩
      | true =>
        by_cases h6 : x6 = 46
        · subst h6
          go_wp2_with fail
          refine HD7.out.mono ?_
          rintro e w9 ⟨rfl, h9⟩
          obtain rfl := h9.symm
          clear h9
          dsimp only
          cases h7 : isD x7 with
          | false =>
            have HE := Hid.of (HNo.out (by rw [HV.out, h7]; simp))
            go_wp2
            go_ret2
            rw [HE.out]
            exact ⟨rfl, Up.refl _⟩
          | true =>
            have HE := Hid.of (HVal.out (by rw [HV.out, h5, h7]; rfl))
            have k5 := isD_nat h5
            have k7 := isD_nat h7
            clear h5 h7 HD5 HD7 HV HNo HVal
            have hw2 : IntKind.u8.wrap ((x5.toNat : Int) - 48) = (x5.toNat : Int) - 48 := wrapu8 _ (by omega) (by omega)
            have hw3 : IntKind.i64.wrap ((x5.toNat : Int) - 48) = (x5.toNat : Int) - 48 := wrapk _ (by omega) (by omega)
            have hw4 : IntKind.u8.wrap ((x7.toNat : Int) - 48) = (x7.toNat : Int) - 48 := wrapu8 _ (by omega) (by omega)
            have hw5 : IntKind.i64.wrap ((x7.toNat : Int) - 48) = (x7.toNat : Int) - 48 := wrapk _ (by omega) (by omega)
            go_wp2
            refine wp_region_held_drew (S := fun w2 => Up w w2) (by kernel_rfl) (Up.refl _).drew (fun hS => ?_)
            refine wpAnyH_take (i := 0) (oi := { dst := some 29, op := Go.Op.move (Go.Operand.tmp 0), type := 9, pos := "ref.go:185", after := #[], guard := none }) (v := .string s) rfl (by kernel_rfl) (by kernel_rfl) (by kernel_rfl) (fun _ _ _ h => h) (Or.inl ⟨by kernel_rfl, ?_⟩) hS ?_
            · intro w5 hSw
              clear hSw hS
              go_simp
            simp only [Act.put, List.setIfInBounds_toArray, List.set_cons_zero, List.set_cons_succ]
            refine wpAnyH_take (i := 1) (oi := { dst := some 30, op := Go.Op.index 9 (Go.Operand.tmp 29) (Go.Operand.const (Go.Value.int Go.IntKind.i64 5)), type := 5, pos := "ref.go:185", after := #[{ on := 0, ground := Go.Ground.data }], guard := none }) (v := .int .u8 (x5.toNat : Int)) rfl (by kernel_rfl) (by kernel_rfl) (by kernel_rfl) (fun _ _ _ h => h) (Or.inl ⟨by kernel_rfl, ?_⟩) hS ?_
            · intro w5 hSw
              clear hSw hS
              go_simp
            simp only [Act.put, List.setIfInBounds_toArray, List.set_cons_zero, List.set_cons_succ]
            refine wpAnyH_take (i := 2) (oi := { dst := some 31, op := Go.Op.binOp Go.BinOp.sub 5 (Go.Operand.tmp 30) (Go.Operand.const (Go.Value.int Go.IntKind.u8 48)) 5, type := 5, pos := "ref.go:185", after := #[{ on := 1, ground := Go.Ground.data }], guard := none }) (v := .int .u8 ((x5.toNat : Int) - 48)) rfl (by kernel_rfl) (by kernel_rfl) (by kernel_rfl) (fun _ _ _ h => h) (Or.inl ⟨by kernel_rfl, ?_⟩) hS ?_
            · intro w5 hSw
              clear hSw hS
              go_simp
            simp only [Act.put, List.setIfInBounds_toArray, List.set_cons_zero, List.set_cons_succ]
            refine wpAnyH_take (i := 3) (oi := { dst := some 32, op := Go.Op.convert 5 3 (Go.Operand.tmp 31), type := 3, pos := "ref.go:185", after := #[{ on := 2, ground := Go.Ground.data }], guard := none }) (v := .int .i64 ((x5.toNat : Int) - 48)) rfl (by kernel_rfl) (by kernel_rfl) (by kernel_rfl) (fun _ _ _ h => h) (Or.inl ⟨by kernel_rfl, ?_⟩) hS ?_
            · intro w5 hSw
              clear hSw hS
              go_simp
            simp only [Act.put, List.setIfInBounds_toArray, List.set_cons_zero, List.set_cons_succ]
            refine wpAnyH_take (i := 4) (oi := { dst := some 33, op := Go.Op.move (Go.Operand.tmp 0), type := 9, pos := "ref.go:185", after := #[{ on := 8, ground := Go.Ground.gcOnly Go.Departure.lateStores }], guard := none }) (v := .string s) rfl (by kernel_rfl) (by kernel_rfl) (by kernel_rfl) (fun _ _ _ h => h) (Or.inl ⟨by kernel_rfl, ?_⟩) hS ?_
            · intro w5 hSw
              clear hSw hS
              go_simp
            simp only [Act.put, List.setIfInBounds_toArray, List.set_cons_zero, List.set_cons_succ]
            refine wpAnyH_take (i := 5) (oi := { dst := some 34, op := Go.Op.index 9 (Go.Operand.tmp 33) (Go.Operand.const (Go.Value.int Go.IntKind.i64 7)), type := 5, pos := "ref.go:185", after := #[{ on := 4, ground := Go.Ground.data }, { on := 8, ground := Go.Ground.gcOnly Go.Departure.lateStores }], guard := none }) (v := .int .u8 (x7.toNat : Int)) rfl (by kernel_rfl) (by kernel_rfl) (by kernel_rfl) (fun _ _ _ h => h) (Or.inl ⟨by kernel_rfl, ?_⟩) hS ?_
            · intro w5 hSw
              clear hSw hS
              go_simp
            simp only [Act.put, List.setIfInBounds_toArray, List.set_cons_zero, List.set_cons_succ]
            refine wpAnyH_take (i := 6) (oi := { dst := some 35, op := Go.Op.binOp Go.BinOp.sub 5 (Go.Operand.tmp 34) (Go.Operand.const (Go.Value.int Go.IntKind.u8 48)) 5, type := 5, pos := "ref.go:185", after := #[{ on := 5, ground := Go.Ground.data }, { on := 8, ground := Go.Ground.gcOnly Go.Departure.lateStores }], guard := none }) (v := .int .u8 ((x7.toNat : Int) - 48)) rfl (by kernel_rfl) (by kernel_rfl) (by kernel_rfl) (fun _ _ _ h => h) (Or.inl ⟨by kernel_rfl, ?_⟩) hS ?_
            · intro w5 hSw
              clear hSw hS
              go_simp
            simp only [Act.put, List.setIfInBounds_toArray, List.set_cons_zero, List.set_cons_succ]
            refine wpAnyH_take (i := 7) (oi := { dst := some 36, op := Go.Op.convert 5 3 (Go.Operand.tmp 35), type := 3, pos := "ref.go:185", after := #[{ on := 6, ground := Go.Ground.data }, { on := 8, ground := Go.Ground.gcOnly Go.Departure.lateStores }], guard := none }) (v := .int .i64 ((x7.toNat : Int) - 48)) rfl (by kernel_rfl) (by kernel_rfl) (by kernel_rfl) (fun _ _ _ h => h) (Or.inl ⟨by kernel_rfl, ?_⟩) hS ?_
            · intro w5 hSw
              clear hSw hS
              go_simp
            simp only [Act.put, List.setIfInBounds_toArray, List.set_cons_zero, List.set_cons_succ]
            refine wpAnyH_take (i := 8) (oi := { dst := some 2, op := Go.Op.assign (Go.Operand.tmp 32), type := 3, pos := "ref.go:185", after := #[{ on := 3, ground := Go.Ground.data }, { on := 0, ground := Go.Ground.phase }, { on := 1, ground := Go.Ground.phase }, { on := 2, ground := Go.Ground.phase }, { on := 3, ground := Go.Ground.phase }, { on := 4, ground := Go.Ground.textOnly Go.Departure.lateStores }, { on := 5, ground := Go.Ground.textOnly Go.Departure.lateStores }, { on := 6, ground := Go.Ground.textOnly Go.Departure.lateStores }, { on := 7, ground := Go.Ground.textOnly Go.Departure.lateStores }], guard := none }) (v := .int .i64 ((x5.toNat : Int) - 48)) rfl (by kernel_rfl) (by kernel_rfl) (by kernel_rfl) (fun _ _ _ h => h) (Or.inl ⟨by kernel_rfl, ?_⟩) hS ?_
            · intro w5 hSw
              clear hSw hS
              go_simp
            simp only [Act.put, List.setIfInBounds_toArray, List.set_cons_zero, List.set_cons_succ]
            refine wpAnyH_take (i := 9) (oi := { dst := some 3, op := Go.Op.assign (Go.Operand.tmp 36), type := 3, pos := "ref.go:185", after := #[{ on := 7, ground := Go.Ground.data }, { on := 8, ground := Go.Ground.chain }, { on := 0, ground := Go.Ground.phase }, { on := 1, ground := Go.Ground.phase }, { on := 2, ground := Go.Ground.phase }, { on := 3, ground := Go.Ground.phase }, { on := 4, ground := Go.Ground.phase }, { on := 5, ground := Go.Ground.phase }, { on := 6, ground := Go.Ground.phase }, { on := 7, ground := Go.Ground.phase }, { on := 8, ground := Go.Ground.phase }], guard := none }) (v := .int .i64 ((x7.toNat : Int) - 48)) rfl (by kernel_rfl) (by kernel_rfl) (by kernel_rfl) (fun _ _ _ h => h) (Or.inl ⟨by kernel_rfl, ?_⟩) hS ?_
            · intro w5 hSw
              clear hSw hS
              go_simp
            simp only [Act.put, List.setIfInBounds_toArray, List.set_cons_zero, List.set_cons_succ]
            clear hS
            refine wpAnyH_done (by kernel_rfl) ?_ _
            go_wp2
            go_ret2
            rw [HE.out]
            exact ⟨rfl, (Up.refl _).drew⟩
        · have h6z := neU (k := 46) rfl h6
          have HE := Hid.of (HNo.out (by rw [HV.out, show (x6 == 46) = false by simpa using h6]; simp))
          go_wp2
          go_ret2
          rw [HE.out]
          exact ⟨rfl, Up.refl _⟩
  · have h8z : ((s.size : Int) != 8) = true := by simp; omega
    have HE := Hid.of (HNo.out (by
      cases h : vok s.data.toList with
      | false => rfl
      | true => exact absurd ((HS.out).trans (vok_len8 h)) h8))
    go_enter Tryz.func75, Tryz.ntmps75
    go_wp2
    go_ret2
    rw [HE.out]
    exact ⟨rfl, Up.refl _⟩
end Go.Proofs.YtabpgpbcnadgcaaGreatDoor
namespace Go.Proofs.YtabpgpbcnadgcaaGreatDoor
open Go.RowKit Go.Shelf TextNum
def lnR : Er Int → Value
  | .error k => .tuple #[.int .i64 0, .int .i64 (nums k)]
  | .ok n => .tuple #[.int .i64 n, .int .i64 0]
theorem nv_app (a b : List UInt8) : nv a ≤ nv (a ++ b) := by
  unfold nv
  have h : nvf 0 (a ++ b) = nvf (nvf 0 a) b := by unfold nvf; rw [List.foldl_append]
  rw [h]
  exact nvf_le _ _
theorem nv_take (l : List UInt8) (i : Nat) : nv (l.take i) ≤ nv l := by
  conv => rhs; rw [← List.take_append_drop i l]
  exact nv_app _ _
theorem alv_small {fs : List FD} {nm : ByteArray} (hl : szs fs ≤ 1048576) : (alv fs nm).length ≤ 1048576 ∧ ∀ v ∈ alv fs nm, v.size ≤ 1048576 := by
  refine ⟨?_, fun v hv => ?_⟩
  · have h1 := szs_len fs
    unfold alv
    rw [List.length_map]
    have h2 := List.length_filter_le (fun f => lws f.n.data.toList == nm.data.toList) fs
    omega
  · obtain ⟨f, hf, rfl⟩ := List.mem_map.1 hv
    have := szs_mem fs (List.mem_filter.1 hf).1
    omega
theorem isN_form {l : List UInt8} (h : l.all isD = true) (h0 : l ≠ []) (h1 : ¬ (1 < l.length ∧ l.head? = some 48)) : isN l = true := by
  unfold isN
  rw [show l.all TextNum.isD = l.all isD from rfl, h, Bool.true_and]
  have hp := List.length_pos_iff.2 h0
  by_cases hl : l.length = 1
  · simp [hl]
  · have hl2 : 1 < l.length := by omega
    simp [hl2]
    right
    exact fun e => h1 ⟨hl2, e⟩
set_option maxRecDepth 100000 in
set_option maxHeartbeats 4000000 in
theorem Rlength_walk (a : Option Addr) (fs : List FD) (c : Nat) (mi : Int) (w : World) (h : FdL w a fs c) (hl : szs fs ≤ 1048576) :
    Calls Tryz.prog 77 #[.slice a fs.length c, .int .i64 mi] w fun e w' => e = .returned (lnR (rln fs mi)) ∧ Up w w' := by
  have HA1 := Hid.of (Rall_walk a fs c tew w h (by omega))
  have HA2 := Hid.of (fun w2 (k : Up w w2) => Rall_walk a fs c clw w2 (h.up k) (by omega))
  have hC1 := alv_small (nm := tew) hl
  have hC2 := alv_small (nm := clw) hl
  obtain ⟨rv, hrv⟩ : ∃ rv, rln fs mi = rv := ⟨_, rfl⟩
  rw [hrv]
  have HR0 := Hid.of hrv
  unfold rln at HR0
  clear hrv h hl
  generalize alv fs tew = cod at *
  generalize alv fs clw = tol at *
  unfold tew at HA1
  unfold clw at HA2
  cases cod with
  | cons A r =>
    dsimp only at HR0
    obtain ⟨hc1, hc2⟩ := hC1
    have hAz := hc2 A (by simp)
    have HR := Hid.of HR0.out
    clear HR0 hc2
    obtain ⟨n1, hn1⟩ : ∃ n1, (A :: r).length = n1 := ⟨_, rfl⟩
    have hn0 : 0 < n1 := by rw [← hn1, List.length_cons]; omega
    have HN1 := Hid.of hn1
    rw [hn1] at HA1 hc1
    obtain ⟨n2, hn2⟩ : ∃ n2, tol.length = n2 := ⟨_, rfl⟩
    have HN2 := Hid.of hn2
    rw [hn2] at HA2 hC2
    have hc3 := hC2.1
    clear hn1 hn2 hC2
    go_enter Tryz.func77, Tryz.ntmps77
    go_wp2_with fail
    refine HA1.out.mono ?_
    rintro e w2 ⟨⟨a2, c2, rfl, hO⟩, h9⟩
    have HU2 := Hid.of h9
    have hcap := hO.out.stl.cap
    rw [HN1.out] at hcap
    obtain ⟨b, off, rfl, k0⟩ := hO.out.stl.cells 0 (by rw [HN1.out]; exact hn0)
    have HK2 := Hid.of (show w2.cell? ⟨b, off, none⟩ = some (.string A) from k0)
    clear h9 hO HA1 k0
    dsimp only
    go_wp2_with fail
    refine (HA2.out w2 HU2.out).mono ?_
    rintro e w3 ⟨⟨a3, c3, rfl, hO⟩, h9⟩
    have HU3 := Hid.of (HU2.out.trans h9)
    have c0 := h9.cell HK2.out
    have hcap3 := hO.out.stl.cap
    rw [HN2.out] at hcap3
    clear h9 hO HA2 HK2
    dsimp only
    have hn0z : (0 : Int) < (n1 : Int) := by omega
    by_cases hm : mi = 0
    · subst hm
      have HE := Hid.of (show rv = .error 5 by rw [← HR.out, if_pos (.inl rfl)])
      go_wp2
      go_ret2
      rw [HE.out]
      exact ⟨rfl, HU3.out⟩
    · have hmz : (mi == 0) = false := by rw [beq_eq_false_iff_ne]; exact hm
      by_cases h1 : 1 < n1
      · have h1z : (1 : Int) < (n1 : Int) := by omega
        have HE := Hid.of (show rv = .error 5 by
          have hrn : r ≠ [] := by
            intro e
            have h2 := HN1.out
            rw [e, List.length_cons, List.length_nil] at h2
            omega
          rw [← HR.out, if_pos (.inr (.inl hrn))])
        clear hm
        go_wp2
        go_ret2
        rw [HE.out]
        exact ⟨rfl, HU3.out⟩
      · have h1z : ¬ (1 : Int) < (n1 : Int) := by omega
        have hr : r = [] := by
          have h2 := HN1.out
          rw [List.length_cons] at h2
          exact List.length_eq_zero_iff.1 (by omega)
        have HSm := Hid.of (show ∀ w, Calls Tryz.prog 90 #[.string A] w fun e w' => e = .returned (.string ⟨(lws A.data.toList).toArray⟩) ∧ Up w w' from fun w => lowerL_walk A w (by omega))
        obtain ⟨nw, hnw⟩ : ∃ nw : ByteArray, (⟨(lws A.data.toList).toArray⟩ : ByteArray) = nw := ⟨_, rfl⟩
        rw [hnw] at HSm
        have HNw := Hid.of (show nw.toList = lws A.data.toList by rw [Go.Lib.toList_data, ← hnw])
        clear hnw
        have hcd : ∀ x y : Bool, True := fun _ _ => trivial
        clear hcd
        go_wp2_with fail
        refine (HSm.out _).mono ?_
        rintro e w4 ⟨rfl, h9⟩
        have HU4 := Hid.of (HU3.out.trans h9)
        clear h9 HSm c0
        dsimp only
        by_cases hch : lws A.data.toList = chw.data.toList
        · have hz : (nw.toList == [99, 104, 117, 110, 107, 101, 100]) = true := by rw [HNw.out, hch]; rfl
          by_cases h2 : 0 < n2
          · have h2z : (0 : Int) < (n2 : Int) := by omega
            have HE := Hid.of (show rv = .error 5 by
              have htn : tol ≠ [] := by
                intro e
                have h3 := HN2.out
                rw [e, List.length_nil] at h3
                omega
              rw [← HR.out, if_pos (.inr (.inr (.inr htn)))])
            clear hm hr
            go_wp2
            go_ret2
            rw [HE.out]
            exact ⟨rfl, HU4.out⟩
          · have h2z : ¬ (0 : Int) < (n2 : Int) := by omega
            have HE := Hid.of (show rv = .ok (-2) by
              have ht : tol = [] := List.length_eq_zero_iff.1 (by rw [HN2.out]; omega)
              rw [← HR.out, if_neg ?_]
              rintro (h | h | h | h)
              · exact hm h
              · exact h hr
              · exact h hch
              · exact h ht)
            clear hm hr
            go_wp2
            go_ret2
            rw [HE.out]
            exact ⟨rfl, HU4.out⟩
        · have hz : (nw.toList == [99, 104, 117, 110, 107, 101, 100]) = false := by
            rw [HNw.out, beq_eq_false_iff_ne]
            exact hch
          have HE := Hid.of (show rv = .error 5 by rw [← HR.out, if_pos (.inr (.inr (.inl hch)))])
          clear hm hr
          go_wp2
          go_ret2
          rw [HE.out]
          exact ⟨rfl, HU4.out⟩
  | nil =>
    clear hC1
    obtain ⟨n2, hn2⟩ : ∃ n2, tol.length = n2 := ⟨_, rfl⟩
    have HN2 := Hid.of hn2
    rw [hn2] at HA2 hC2
    obtain ⟨hc3, hc4⟩ := hC2
    have HM := Hid.of hc4
    clear hn2 hc4
    dsimp only [List.length_nil] at HA1
    go_enter Tryz.func77, Tryz.ntmps77
    go_wp2_with fail
    refine HA1.out.mono ?_
    rintro e w2 ⟨⟨a2, c2, rfl, hO⟩, h9⟩
    have HU2 := Hid.of h9
    clear h9 hO HA1
    dsimp only
    go_wp2_with fail
    refine (HA2.out w2 HU2.out).mono ?_
    rintro e w3 ⟨⟨a3, c3, rfl, hO⟩, h9⟩
    have HU3 := Hid.of (HU2.out.trans h9)
    have hcap3 := hO.out.stl.cap
    rw [HN2.out] at hcap3
    have HO3 := Hid.of hO.out.stl
    clear h9 hO HA2
    dsimp only
    by_cases h0 : n2 = 0
    · have h0z : ((n2 : Int) == 0) = true := by rw [h0]; rfl
      have ht : tol = [] := List.length_eq_zero_iff.1 (by rw [HN2.out]; exact h0)
      subst ht
      have HE := Hid.of (show rv = .ok (-1) from HR0.out.symm)
      clear h0 HR0
      go_wp2
      go_ret2
      rw [HE.out]
      exact ⟨rfl, HU3.out⟩
    · have h0z : ((n2 : Int) == 0) = false := by rw [beq_eq_false_iff_ne]; omega
      by_cases h1 : 1 < n2
      · have h1z : (1 : Int) < (n2 : Int) := by omega
        have HE := Hid.of (show rv = .error 5 by
          rw [← HR0.out]
          match tol, HN2.out with
          | [], h => exact absurd h.symm h0
          | [x], h => simp at h; omega
          | _ :: _ :: _, _ => rfl)
        clear HR0
        go_wp2
        go_ret2
        rw [HE.out]
        exact ⟨rfl, HU3.out⟩
      · have h1z : ¬ (1 : Int) < (n2 : Int) := by omega
        obtain ⟨S, rfl⟩ : ∃ S, tol = [S] := by
          match tol, HN2.out with
          | [], h => exact absurd h.symm h0
          | [x], _ => exact ⟨x, rfl⟩
          | _ :: _ :: _, h => simp at h; omega
        have hSz := HM.out S (by simp)
        have HRd := Hid.of (show rv = dgl S.data.toList from HR0.out.symm)
        obtain ⟨b, off, rfl, k0⟩ := HO3.out.cells 0 (by simp)
        have c0 : w3.cell? ⟨b, off, none⟩ = some (.string S) := k0
        have hp2 : 0 < n2 := by omega
        clear HR0 HM HO3 k0 HN2
        have HS := Hid.of (Go.Lib.size_eq S)
        obtain ⟨L, hL⟩ : ∃ L, S.data.toList = L := ⟨_, rfl⟩
        have HLL := Hid.of hL
        rw [hL] at HS HRd
        clear hL
        have HG := Hid.of (show ∀ i (h : i < S.size), S[i] = L[i]'(by rw [← HS.out]; exact h) from fun i h => by
          have h1 := HLL.out
          subst h1
          rfl)
        go_wp2
        go_loopw [9] (fun v9 wr => ∃ i : Nat, v9 = .int .i64 (i : Int) ∧ i ≤ S.size ∧ Hid (Up w wr ∧ (L.take i).all isD = true)) (fun v9 _ => S.size - (intOf v9).toNat)
        case atStart => exact ⟨0, rfl, Nat.zero_le _, Hid.of ⟨HU3.out, rfl⟩⟩
        case round =>
          obtain ⟨i, rfl, hi, hU⟩ := hrel
          have HU := Hid.of hU.out
          clear hU
          by_cases hil : i < S.size
          · have hilz : (i : Int) < (S.size : Int) := by omega
            have hg := HG.out i hil
            have hiL : i < L.length := by rw [← HS.out]; exact hil
            have HT := Hid.of (List.take_succ_eq_append_getElem hiL)
            have HMm := Hid.of (List.getElem_mem hiL)
            generalize L[i]'(by rw [← HS.out]; exact hil) = x at *
            clear hiL
            go_wp2_with fail
            refine (Rdigit_walk x _).mono ?_
            rintro e w9 ⟨rfl, h9⟩
            obtain rfl := h9.symm
            clear h9
            dsimp only
            cases hd : isD x with
            | false =>
              have HE := Hid.of (show rv = .error 5 by
                rw [HRd.out]
                unfold dgl isN
                have : L.all isD = false := List.all_eq_false.2 ⟨x, HMm.out, by rw [hd]; simp⟩
                rw [show L.all TextNum.isD = L.all isD from rfl, this]
                rfl)
              go_wp2
              go_ret2
              rw [HE.out]
              exact ⟨rfl, HU.out.1⟩
            | true =>
              have HN := Hid.of (show (L.take (i + 1)).all isD = true by rw [HT.out, List.all_append, HU.out.2]; simp [hd])
              go_wp2
              go_roundw
              all_goals first
                | exact ⟨i + 1, by go_num, by omega, Hid.of ⟨HU.out.1, HN.out⟩⟩
                | (simp [intOf]; omega)
          · have hilz : ¬ (i : Int) < (S.size : Int) := by omega
            have HAl := Hid.of (show L.all isD = true by
              have h1 := HU.out.2
              rw [List.take_of_length_le (by rw [← HS.out]; omega)] at h1
              exact h1)
            have HUr := Hid.of HU.out.1
            clear HU c0
            by_cases hz0 : S.size = 0
            · have hem := emp_yes hz0
              have HE := Hid.of (show rv = .error 5 by
                rw [HRd.out]
                have hL0 : L = [] := List.length_eq_zero_iff.1 (by rw [← HS.out]; exact hz0)
                rw [hL0]
                rfl)
              go_wp2
              go_ret2
              rw [HE.out]
              exact ⟨rfl, HUr.out⟩
            · have hzp : 0 < S.size := by omega
              have hem := emp_no hzp
              have hg0 := HG.out 0 hzp
              have hpL : 0 < L.length := by rw [← HS.out]; exact hzp
              have HHd := Hid.of (show L.head? = some (L[0]) by cases L with | nil => simp at hpL | cons x r => rfl)
              generalize L[0]'(by rw [← HS.out]; exact hzp) = x0 at *
              by_cases hbad : 1 < S.size ∧ x0 = 48
              · obtain ⟨hb1, rfl⟩ := hbad
                have hb1z : (1 : Int) < (S.size : Int) := by omega
                have HE := Hid.of (show rv = .error 5 by
                  rw [HRd.out]
                  unfold dgl isN
                  rw [HHd.out, decide_eq_false (show ¬ L.length = 1 by rw [← HS.out]; omega)]
                  simp)
                go_wp2
                go_ret2
                rw [HE.out]
                exact ⟨rfl, HUr.out⟩
              · have HisN := Hid.of (show isN L = true from isN_form HAl.out (List.length_pos_iff.1 hpL) (by
                  rw [HHd.out, ← HS.out]
                  rintro ⟨h3, h4⟩
                  exact hbad ⟨h3, Option.some.inj h4⟩))
                have hcond : (¬ (1 : Int) < (S.size : Int)) ∨ ((1 : Int) < (S.size : Int) ∧ ((x0.toNat : Int) == 48) = false) := by
                  by_cases h3 : 1 < S.size
                  · right
                    refine ⟨by omega, ?_⟩
                    rw [beq_eq_false_iff_ne]
                    intro e
                    exact hbad ⟨h3, UInt8.toNat_inj.1 (by have : (48 : UInt8).toNat = 48 := rfl; omega)⟩
                  · left; omega
                clear hbad hpL
                rcases hcond with hq | ⟨hq, hq2⟩
                all_goals
                  go_wp2
                  go_loopw [10, 11] (fun v10 v11 wr => ∃ i k : Nat, v11 = .int .i64 (i : Int) ∧ v10 = .int .i64 (k : Int) ∧ i ≤ S.size ∧ k ≤ 1048576 ∧ Hid (Up w wr ∧ nv (L.take i) = k)) (fun _ v11 _ => S.size - (intOf v11).toNat)
                  case atStart => exact ⟨0, 0, rfl, rfl, Nat.zero_le _, Nat.zero_le _, Hid.of ⟨HUr.out, rfl⟩⟩
                  case round =>
                    obtain ⟨i, k, rfl, rfl, hi, hk, hU⟩ := hrel
                    have HU := Hid.of hU.out
                    clear hU
                    by_cases hil : i < S.size
                    · have hilz : (i : Int) < (S.size : Int) := by omega
                      have hg := HG.out i hil
                      have hiL : i < L.length := by rw [← HS.out]; exact hil
                      have HV := Hid.of (show nv (L.take (i + 1)) = 10 * k + ((L[i]).toNat - 48) by rw [List.take_succ_eq_append_getElem hiL, nv_snoc, HU.out.2])
                      have hd := isD_nat (List.all_eq_true.1 HAl.out _ (List.getElem_mem hiL))
                      generalize L[i]'(by rw [← HS.out]; exact hil) = x at *
                      clear hiL
                      have hw1 : IntKind.i64.wrap (10 * (k : Int)) = 10 * (k : Int) := wrapk _ (by omega) (by omega)
                      have hw2 : IntKind.u8.wrap ((x.toNat : Int) - 48) = (x.toNat : Int) - 48 := wrapu8 _ (by omega) (by omega)
                      have hw3 : IntKind.i64.wrap ((x.toNat : Int) - 48) = (x.toNat : Int) - 48 := wrapk _ (by omega) (by omega)
                      have hw4 : IntKind.i64.wrap (10 * (k : Int) + ((x.toNat : Int) - 48)) = 10 * (k : Int) + ((x.toNat : Int) - 48) := wrapk _ (by omega) (by omega)
                      by_cases hbig : 1048576 < 10 * k + (x.toNat - 48)
                      · have hbz : (1048576 : Int) < 10 * (k : Int) + ((x.toNat : Int) - 48) := by omega
                        have HE := Hid.of (show rv = .error 7 by
                          rw [HRd.out]
                          unfold dgl
                          have h5 := nv_take L (i + 1)
                          rw [HV.out] at h5
                          rw [if_pos HisN.out, if_neg (by omega)])
                        go_wp2
                        go_ret2
                        rw [HE.out]
                        exact ⟨rfl, HU.out.1⟩
                      · have hbz : ¬ (1048576 : Int) < 10 * (k : Int) + ((x.toNat : Int) - 48) := by omega
                        go_wp2
                        go_roundw
                        all_goals first
                          | exact ⟨i + 1, 10 * k + (x.toNat - 48), by go_num, by simp only [Value.int.injEq, true_and]; omega, by omega, by omega, Hid.of ⟨HU.out.1, HV.out⟩⟩
                          | (simp [intOf]; omega)
                    · have hilz : ¬ (i : Int) < (S.size : Int) := by omega
                      have HE := Hid.of (show rv = .ok (k : Int) by
                        have h1 := HU.out.2
                        rw [List.take_of_length_le (by rw [← HS.out]; omega)] at h1
                        rw [HRd.out]
                        unfold dgl
                        rw [if_pos HisN.out, h1, if_pos hk])
                      go_wp2
                      go_ret2
                      rw [HE.out]
                      exact ⟨rfl, HU.out.1⟩
end Go.Proofs.YtabpgpbcnadgcaaGreatDoor
namespace Go.Proofs.YtabpgpbcnadgcaaGreatDoor
open Go.RowKit Go.Shelf TextNum
theorem any_snoc {α : Type} (p : α → Bool) (l : List α) (x : α) : (l ++ [x]).any p = (l.any p || p x) := by simp
set_option maxRecDepth 100000 in
set_option maxHeartbeats 4000000 in
theorem Rcloses_walk (a : Option Addr) (fs : List FD) (c : Nat) (mi : Int) (w : World) (h : FdL w a fs c) (hl : szs fs ≤ 1048576) :
    Calls Tryz.prog 79 #[.slice a fs.length c, .int .i64 mi] w fun e w' => e = .returned (.bool (cls (mi == 0) fs)) ∧ Up w w' := by
  have HA := Hid.of (Rall_walk a fs c coN w h (by omega))
  have hC := alv_small (nm := coN) hl
  obtain ⟨rv, hrv⟩ : ∃ rv, cls (mi == 0) fs = rv := ⟨_, rfl⟩
  have HR := Hid.of (cls_ref (mi == 0) fs)
  rw [hrv] at HR ⊢
  clear hrv h hl
  unfold cwd at HR
  generalize alv fs coN = vv at *
  unfold coN at HA
  obtain ⟨n, hn⟩ : ∃ n, vv.length = n := ⟨_, rfl⟩
  have HN := Hid.of hn
  rw [hn] at HA hC
  obtain ⟨hc1, hc2⟩ := hC
  have HM := Hid.of hc2
  clear hn hc2
  go_enter Tryz.func79, Tryz.ntmps79
  go_wp2_with fail
  refine HA.out.mono ?_
  rintro e w2 ⟨⟨a2, c2, rfl, hO⟩, h9⟩
  have HU2 := Hid.of h9
  have HS := Hid.of hO.out.stl
  have hcap := hO.out.stl.cap
  rw [HN.out] at hcap
  clear hO h9 HA
  dsimp only
  go_wp2
  go_loopw [5, 6, 8] (fun v5 v6 v8 wr => ∃ (i : Nat) (sh kp : Bool), v8 = .int .i64 (i : Int) ∧ v5 = .bool sh ∧ v6 = .bool kp ∧ i ≤ n ∧ Hid (Up w2 wr ∧ ((vv.take i).flatMap fun v => pcs 44 v.data.toList).any cld = sh ∧ ((vv.take i).flatMap fun v => pcs 44 v.data.toList).any kpa = kp)) (fun _ _ v8 _ => n - (intOf v8).toNat)
  case atStart => exact ⟨0, false, false, rfl, rfl, rfl, Nat.zero_le _, Hid.of ⟨Up.refl _, rfl, rfl⟩⟩
  case round =>
    obtain ⟨i, sh, kp, rfl, rfl, rfl, hi, hU⟩ := hrel
    have HU := Hid.of hU.out
    clear hU
    by_cases hil : i < n
    · have hilz : (i : Int) < (n : Int) := by omega
      have hil2 : i < vv.length := by rw [HN.out]; exact hil
      obtain ⟨b, off, rfl, k1⟩ := HS.out.cells i hil2
      have HT := Hid.of (show ((vv.take (i + 1)).flatMap fun v => pcs 44 v.data.toList) = ((vv.take i).flatMap fun v => pcs 44 v.data.toList) ++ pcs 44 vv[i].data.toList by
        rw [List.take_succ_eq_append_getElem hil2, List.flatMap_append]
        simp)
      have hvz := HM.out _ (List.getElem_mem hil2)
      generalize vv[i] = v at *
      generalize hD : ((vv.take i).flatMap fun v => pcs 44 v.data.toList) = D at *
      generalize hD2 : ((vv.take (i + 1)).flatMap fun v => pcs 44 v.data.toList) = D2 at *
      have c1 := HU.out.1.cell k1
      clear k1 hD
      have HP := Hid.of (Rpieces_walk v 44 (by omega) wr)
      have HPs := Hid.of (pcs_small 44 v.data.toList)
      have hpl := pcs_len 44 v.data.toList
      have hvs := Go.Lib.size_eq v
      rw [← hvs] at HPs hpl
      generalize pcs 44 v.data.toList = ps at *
      obtain ⟨m, hm⟩ : ∃ m, ps.length = m := ⟨_, rfl⟩
      have HMm := Hid.of hm
      rw [hm] at HP hpl
      clear hm hvs
      go_wp2_with fail
      refine HP.out.mono ?_
      rintro e w3 ⟨⟨a3, c3, rfl, hO⟩, h9⟩
      have HU3 := Hid.of (HU.out.1.trans h9)
      have HS3 := Hid.of hO.out.stl
      have hcap3 := hO.out.stl.cap
      rw [bts_len, HMm.out] at hcap3
      have HD := Hid.of HU.out.2
      clear hO h9 HP HU c1
      dsimp only
      go_wp2
      go_loopw [5, 6, 10] (fun v5 v6 v10 wr2 => ∃ (j : Nat) (sh2 kp2 : Bool), v10 = .int .i64 (j : Int) ∧ v5 = .bool sh2 ∧ v6 = .bool kp2 ∧ j ≤ m ∧ Hid (Up w3 wr2 ∧ (D ++ ps.take j).any cld = sh2 ∧ (D ++ ps.take j).any kpa = kp2)) (fun _ _ v10 _ => m - (intOf v10).toNat)
      case atStart => exact ⟨0, sh, kp, rfl, rfl, rfl, Nat.zero_le _, Hid.of ⟨Up.refl _, by rw [List.take_zero, List.append_nil]; exact HD.out.1, by rw [List.take_zero, List.append_nil]; exact HD.out.2⟩⟩
      case round =>
        obtain ⟨j, sh2, kp2, rfl, rfl, rfl, hj, hU4⟩ := hrel
        have HU4 := Hid.of hU4.out
        clear hU4
        by_cases hjl : j < m
        · have hjlz : (j : Int) < (m : Int) := by omega
          have hj2 : j < ps.length := by rw [HMm.out]; exact hjl
          obtain ⟨b3, off3, rfl, k3⟩ := HS3.out.cells j (by rw [bts_len]; exact hj2)
          have e1 : (bts ps)[j]'(by rw [bts_len]; exact hj2) = ⟨ps[j].toArray⟩ := by simp [bts]
          rw [e1] at k3
          have HT2 := Hid.of (show D ++ ps.take (j + 1) = (D ++ ps.take j) ++ [ps[j]] by rw [List.take_succ_eq_append_getElem hj2, List.append_assoc])
          have hpz := HPs.out _ (List.getElem_mem hj2)
          generalize ps[j] = x at *
          obtain ⟨X, hX⟩ : ∃ X : ByteArray, (⟨x.toArray⟩ : ByteArray) = X := ⟨_, rfl⟩
          have HX := Hid.of (show X.data.toList = x by rw [← hX])
          have hXz : X.size ≤ 1048576 := by rw [Go.Lib.size_eq, HX.out]; omega
          rw [hX] at k3
          have c3 := HU4.out.1.cell k3
          clear hX k3 e1 hj2
          have HTr := Hid.of (Rtrim_walk X (by omega) wr)
          rw [HX.out] at HTr
          have hTl := trm_len x
          obtain ⟨Y, hY⟩ : ∃ Y : ByteArray, (⟨(trm x).toArray⟩ : ByteArray) = Y := ⟨_, rfl⟩
          have HY := Hid.of (show Y.data.toList = trm x by rw [← hY])
          have hYz : Y.size ≤ 1048576 := by rw [Go.Lib.size_eq, HY.out]; omega
          have hvY : vs (trm x) = .string Y := by rw [← hY]
          rw [hvY] at HTr
          clear hY hvY
          go_wp2_with fail
          refine HTr.out.mono ?_
          rintro e w5 ⟨rfl, h9⟩
          obtain rfl := h9.symm
          clear h9 HTr
          dsimp only
          have HSm := Hid.of (lowerL_walk Y wr (by omega))
          rw [HY.out] at HSm
          obtain ⟨Z, hZ⟩ : ∃ Z : ByteArray, (⟨(lws (trm x)).toArray⟩ : ByteArray) = Z := ⟨_, rfl⟩
          have HZ := Hid.of (show Z.toList = lws (trm x) by rw [Go.Lib.toList_data, ← hZ])
          rw [hZ] at HSm
          clear hZ
          go_wp2_with fail
          refine HSm.out.mono ?_
          rintro e w6 ⟨rfl, h9⟩
          have HU6 := Hid.of (HU4.out.1.trans h9)
          clear h9 HSm c3
          dsimp only
          have HC := Hid.of (show (Z.toList == [99, 108, 111, 115, 101]) = cld x by rw [HZ.out]; rfl)
          have HK := Hid.of (show (Z.toList == [107, 101, 101, 112, 45, 97, 108, 105, 118, 101]) = kpa x by rw [HZ.out]; rfl)
          have HA4 := Hid.of (show (D ++ ps.take (j + 1)).any cld = (sh2 || cld x) by rw [HT2.out, any_snoc, HU4.out.2.1])
          have HB4 := Hid.of (show (D ++ ps.take (j + 1)).any kpa = (kp2 || kpa x) by rw [HT2.out, any_snoc, HU4.out.2.2])
          clear HT2 HU4
          obtain ⟨b1, hb1⟩ : ∃ b1, cld x = b1 := ⟨_, rfl⟩
          obtain ⟨b2, hb2⟩ : ∃ b2, kpa x = b2 := ⟨_, rfl⟩
          rw [hb1] at HC HA4
          rw [hb2] at HK HB4
          have z1 := HC.out
          have z2 := HK.out
          clear hb1 hb2 HC HK
          cases sh2 <;> cases kp2
          all_goals
            go_wp2
            go_roundw
            all_goals first
              | exact ⟨j + 1, _, _, by go_num, rfl, rfl, by omega, Hid.of ⟨HU6.out, by rw [HA4.out]; simp, by rw [HB4.out]; simp⟩⟩
              | (simp [intOf]; omega)
        · have hjlz : ¬ (j : Int) < (m : Int) := by omega
          have HF := Hid.of (show D2.any cld = sh2 ∧ D2.any kpa = kp2 by
            have h1 := HU4.out.2
            rw [List.take_of_length_le (by rw [HMm.out]; omega), ← HT.out] at h1
            exact h1)
          have HU7 := Hid.of (HU3.out.trans HU4.out.1)
          clear HU4
          go_wp2
          go_roundw
          all_goals first
            | exact ⟨i + 1, sh2, kp2, by go_num, rfl, rfl, by omega, Hid.of ⟨HU7.out, by rw [hD2]; exact HF.out.1, by rw [hD2]; exact HF.out.2⟩⟩
            | (simp [intOf]; omega)
    · have hilz : ¬ (i : Int) < (n : Int) := by omega
      have HE := Hid.of (show rv = (sh || ((mi == 0) && !kp)) by
        have h1 := HU.out.2
        rw [List.take_of_length_le (by rw [HN.out]; omega)] at h1
        rw [HR.out, h1.1, h1.2])
      have HU8 := Hid.of (HU2.out.trans HU.out.1)
      clear HU HR
      cases hm : (mi == 0)
      all_goals
        rw [hm] at HE
        cases sh <;> cases kp
        all_goals
          go_wp2
          go_ret
          rw [HE.out]
          exact ⟨rfl, HU8.out⟩
end Go.Proofs.YtabpgpbcnadgcaaGreatDoor
