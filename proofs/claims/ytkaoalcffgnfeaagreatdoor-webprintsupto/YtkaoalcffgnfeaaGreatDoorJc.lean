import Derived.Test.YtkaoalcffgnfeaaGreatDoorJb
import Derived.Test.YtkaoalcffgnfeaaGreatDoorJa
namespace Go.Proofs.YtkaoalcffgnfeaaGreatDoor
open Go.RowKit Go.Shelf TextNum
theorem trm_front {b : UInt8} {l : List UInt8} (h : blk b = true) : trm (b :: l) = trm l := by
 rw [trm_def, trm_def, List.reverse_cons, List.dropWhile_append]
 split
 · rename_i he
   have e : l.reverse.dropWhile blk = [] := by simpa using he
   rw [e, List.dropWhile_cons, h]
   rfl
 · rw [List.reverse_append]
   show (b :: (l.reverse.dropWhile blk).reverse).dropWhile blk = _
   rw [List.dropWhile_cons, h]
   rfl
theorem trm_back {b : UInt8} {l : List UInt8} (h : blk b = true) : trm (l ++ [b]) = trm l := by
 rw [trm_def, trm_def, List.reverse_append]
 show ((b :: l.reverse).dropWhile blk).reverse.dropWhile blk = _
 rw [List.dropWhile_cons, h]
 rfl
theorem blk_iff (b : UInt8) : blk b = (b == 32 || b == 9) := by
 unfold blk bks
 simp [List.contains, List.elem]
 cases (b == 32) <;> cases (b == 9) <;> rfl
theorem blk_yes32 {x : UInt8} (h : ((x.toNat : Int) == 32) = true) : blk x = true := by
 have h1 := eq_of_beq h
 have h2 : x = 32 := UInt8.toNat_inj.1 (by show x.toNat = 32; omega)
 rw [h2]
 decide
theorem blk_yes9 {x : UInt8} (h : ((x.toNat : Int) == 9) = true) : blk x = true := by
 have h1 := eq_of_beq h
 have h2 : x = 9 := UInt8.toNat_inj.1 (by show x.toNat = 9; omega)
 rw [h2]
 decide
theorem blk_no {x : UInt8} (h : ((x.toNat : Int) == 32) = false) (h9 : ((x.toNat : Int) == 9) = false) : blk x = false := by
 rw [blk_iff]
 rw [beq_eq_false_iff_ne] at h h9
 have a : (x == 32) = false := by rw [beq_eq_false_iff_ne]; rintro rfl; exact h rfl
 have b : (x == 9) = false := by rw [beq_eq_false_iff_ne]; rintro rfl; exact h9 rfl
 rw [a, b]
 rfl
theorem extr_drop (s : ByteArray) (k : Nat) : (s.extract k s.size).data.toList = s.data.toList.drop k := by
 have hz : s.size = s.data.toList.length := Go.Lib.size_eq s
 rw [ByteArray.data_extract, Array.toList_extract, List.extract_eq_drop_take', List.take_of_length_le (by rw [← hz]; exact Nat.le_refl _)]
theorem extr_take (s : ByteArray) (k : Nat) : (s.extract 0 k).data.toList = s.data.toList.take k := by
 rw [ByteArray.data_extract, Array.toList_extract, List.extract_eq_drop_take', List.drop_zero]
theorem emp_no {s : ByteArray} (h : 0 < s.size) : s.toList.isEmpty = false := by
 rw [Go.Lib.toList_data]
 rw [Go.Lib.size_eq] at h
 cases hl : s.data.toList with
 | nil => rw [hl] at h; simp at h
 | cons a b => rfl
theorem emp_yes {s : ByteArray} (h : s.size = 0) : s.toList.isEmpty = true := by
 rw [Go.Lib.toList_data]
 rw [Go.Lib.size_eq] at h
 rw [List.eq_nil_of_length_eq_zero h]
 rfl
set_option maxRecDepth 100000 in
set_option maxHeartbeats 2000000 in
theorem Rtrim_walk (s : ByteArray) (hs : s.size ≤ 1099511627776) (w : World) : Calls Tryz.prog 77 #[.string s] w fun e w' => e = .returned (vs (trm s.data.toList)) ∧ w' = w := by
 obtain ⟨r, hr⟩ := ny (trm s.data.toList)
 have HR := Ho hr
 rw [hr]
 clear hr
 go_enter Tryz.func77, Tryz.ntmps77
 go_wp2
 go_loopw [0] (fun v0 wr => ∃ s' : ByteArray, v0 = .string s' ∧ s'.size ≤ 1099511627776 ∧ Hd (wr = w ∧ trm s'.data.toList = r)) (fun v0 _ => szOf v0)
 case atStart => exact ⟨s, rfl, hs, Ho ⟨rfl, HR.o⟩⟩
 case round =>
  obtain ⟨s', rfl, hs', hQ⟩ := hrel
  have HQ := Ho hQ.o
  clear hQ HR
  have HZ := Ho (Go.Lib.size_eq s')
  by_cases h0 : 0 < s'.size
  · have h0z : (0 : Int) < (s'.size : Int) := by omega
    have hem : s'.toList.isEmpty = false := emp_no (by omega)
    have hg := sget' s' 0 h0
    have HE0 : s'.data.toList = s'.data.toList[0]'(by have := HZ.o; omega) :: s'.data.toList.drop 1 := by
     rw [List.getElem_cons_drop, List.drop_zero]
    generalize s'.data.toList[0]'(by have := HZ.o; omega) = x at hg HE0
    have HE := Ho HE0
    clear HE0
    cases h32 : ((x.toNat : Int) == 32) with
    | true =>
     have HBk := Ho (blk_yes32 h32)
     have HD := Ho (show trm (s'.extract 1 s'.size).data.toList = r by
      rw [extr_drop]
      have h1 := HQ.o.2
      rw [HE.o, trm_front HBk.o] at h1
      exact h1)
     have HSz := Ho (show (s'.extract 1 s'.size).size = s'.size - 1 by rw [ByteArray.size_extract]; omega)
     go_wp2
     go_roundw
     all_goals first
      | exact ⟨_, rfl, by rw [HSz.o]; omega, Ho ⟨HQ.o.1, HD.o⟩⟩
      | (show (s'.extract 1 s'.size).size < s'.size; rw [HSz.o]; omega)
      | (simp [szOf]; omega)
    | false =>
     cases h9 : ((x.toNat : Int) == 9) with
     | true =>
      have HBk := Ho (blk_yes9 h9)
      have HD := Ho (show trm (s'.extract 1 s'.size).data.toList = r by
       rw [extr_drop]
       have h1 := HQ.o.2
       rw [HE.o, trm_front HBk.o] at h1
       exact h1)
      have HSz := Ho (show (s'.extract 1 s'.size).size = s'.size - 1 by rw [ByteArray.size_extract]; omega)
      go_wp2
      go_roundw
      all_goals first
       | exact ⟨_, rfl, by rw [HSz.o]; omega, Ho ⟨HQ.o.1, HD.o⟩⟩
       | (show (s'.extract 1 s'.size).size < s'.size; rw [HSz.o]; omega)
       | (simp [szOf]; omega)
     | false =>
      have HD0 := Ho (show ∀ y, s'.data.toList.head? = some y → blk y = false by
       intro y hy
       rw [HE.o] at hy
       injection hy with hy
       rw [← hy]
       exact blk_no h32 h9)
      go_wp2
      go_loopw [0] (fun v0 wr => ∃ s2 : ByteArray, v0 = .string s2 ∧ s2.size ≤ 1099511627776 ∧ Hd (wr = w ∧ trm s2.data.toList = r ∧ ∀ x, s2.data.toList.head? = some x → blk x = false)) (fun v0 _ => szOf v0)
      case atStart => exact ⟨s', rfl, hs', Ho ⟨HQ.o.1, HQ.o.2, HD0.o⟩⟩
      case round =>
       obtain ⟨s2, rfl, hs2, hQ2⟩ := hrel
       have HQ2 := Ho hQ2.o
       clear hQ2
       by_cases h0 : 0 < s2.size
       · have h0z : (0 : Int) < (s2.size : Int) := by omega
         have hem : s2.toList.isEmpty = false := emp_no (by omega)
         have hg := sget' s2 (s2.size - 1) (by omega)
         have HZ2 := Ho (Go.Lib.size_eq s2)
         have HE0 : s2.data.toList = s2.data.toList.take (s2.size - 1) ++ [s2.data.toList[s2.size - 1]'(by have := HZ2.o; omega)] := by
          rw [← List.take_succ_eq_append_getElem, List.take_of_length_le (by have := HZ2.o; omega)]
         generalize s2.data.toList[s2.size - 1]'(by have := HZ2.o; omega) = x at hg HE0
         have HE := Ho HE0
         clear HE0
         have hsub : (s2.size : Int) - 1 = ((s2.size - 1 : Nat) : Int) := by omega
         cases h32 : ((x.toNat : Int) == 32) with
         | true =>
          have HBk := Ho (blk_yes32 h32)
          have HD := Ho (show trm (s2.extract 0 (s2.size - 1)).data.toList = r by
           rw [extr_take]
           have h1 := HQ2.o.2.1
           rw [HE.o, trm_back HBk.o] at h1
           exact h1)
          have HH := Ho (show ∀ x, (s2.extract 0 (s2.size - 1)).data.toList.head? = some x → blk x = false by
           intro y hy
           rw [extr_take] at hy
           refine HQ2.o.2.2 y ?_
           rw [HE.o]
           cases hl : s2.data.toList.take (s2.size - 1) with
           | nil => rw [hl] at hy; cases hy
           | cons a b => rw [hl] at hy; exact hy)
          have HSz := Ho (show (s2.extract 0 (s2.size - 1)).size = s2.size - 1 by rw [ByteArray.size_extract]; omega)
          go_wp2
          go_roundw
          all_goals first
           | exact ⟨_, rfl, by rw [HSz.o]; omega, Ho ⟨HQ2.o.1, HD.o, HH.o⟩⟩
           | (show s2.size - 0 = 0; omega)
           | (show (s2.extract 0 (s2.size - 1)).size < s2.size; rw [HSz.o]; omega)
           | (simp [szOf]; omega)
         | false =>
          cases h9 : ((x.toNat : Int) == 9) with
          | true =>
           have HBk := Ho (blk_yes9 h9)
           have HD := Ho (show trm (s2.extract 0 (s2.size - 1)).data.toList = r by
            rw [extr_take]
            have h1 := HQ2.o.2.1
            rw [HE.o, trm_back HBk.o] at h1
            exact h1)
           have HH := Ho (show ∀ x, (s2.extract 0 (s2.size - 1)).data.toList.head? = some x → blk x = false by
            intro y hy
            rw [extr_take] at hy
            refine HQ2.o.2.2 y ?_
            rw [HE.o]
            cases hl : s2.data.toList.take (s2.size - 1) with
            | nil => rw [hl] at hy; cases hy
            | cons a b => rw [hl] at hy; exact hy)
           have HSz := Ho (show (s2.extract 0 (s2.size - 1)).size = s2.size - 1 by rw [ByteArray.size_extract]; omega)
           go_wp2
           go_roundw
           all_goals first
            | exact ⟨_, rfl, by rw [HSz.o]; omega, Ho ⟨HQ2.o.1, HD.o, HH.o⟩⟩
            | (show s2.size - 0 = 0; omega)
            | (show (s2.extract 0 (s2.size - 1)).size < s2.size; rw [HSz.o]; omega)
            | (simp [szOf]; omega)
          | false =>
           have HT := Ho (show s2.data.toList = r by
            have h1 := HQ2.o.2.1
            rw [trm_id ⟨HQ2.o.2.2, fun y hy => ?_⟩] at h1
            · exact h1
            · rw [HE.o, List.getLast?_concat] at hy
              injection hy with hy
              rw [← hy]
              exact blk_no h32 h9)
           go_wp2
           go_ret
           rw [← HT.o, vs_data']
           exact ⟨rfl, HQ2.o.1⟩
       · have h0z : ¬ (0 : Int) < (s2.size : Int) := by omega
         have hem : s2.toList.isEmpty = true := emp_yes (by omega)
         have HT := Ho (show s2.data.toList = r by
          have h1 := HQ2.o.2.1
          have h2 : s2.data.toList = [] := List.eq_nil_of_length_eq_zero (by rw [← Go.Lib.size_eq]; omega)
          rw [h2] at h1 ⊢
          exact h1)
         go_wp2
         go_ret
         rw [← HT.o, vs_data']
         exact ⟨rfl, HQ2.o.1⟩
  · have h0z : ¬ (0 : Int) < (s'.size : Int) := by omega
    have hem : s'.toList.isEmpty = true := emp_yes (by omega)
    have HD0 := Ho (show ∀ y, s'.data.toList.head? = some y → blk y = false by
     intro y hy
     rw [List.eq_nil_of_length_eq_zero (show s'.data.toList.length = 0 by have := HZ.o; omega)] at hy
     cases hy)
    go_wp2
    go_loopw [0] (fun v0 wr => ∃ s2 : ByteArray, v0 = .string s2 ∧ s2.size ≤ 1099511627776 ∧ Hd (wr = w ∧ trm s2.data.toList = r ∧ ∀ x, s2.data.toList.head? = some x → blk x = false)) (fun v0 _ => szOf v0)
    case atStart => exact ⟨s', rfl, hs', Ho ⟨HQ.o.1, HQ.o.2, HD0.o⟩⟩
    case round =>
     obtain ⟨s2, rfl, hs2, hQ2⟩ := hrel
     have HQ2 := Ho hQ2.o
     clear hQ2
     by_cases h0 : 0 < s2.size
     · have h0z : (0 : Int) < (s2.size : Int) := by omega
       have hem : s2.toList.isEmpty = false := emp_no (by omega)
       have hg := sget' s2 (s2.size - 1) (by omega)
       have HZ2 := Ho (Go.Lib.size_eq s2)
       have HE0 : s2.data.toList = s2.data.toList.take (s2.size - 1) ++ [s2.data.toList[s2.size - 1]'(by have := HZ2.o; omega)] := by
        rw [← List.take_succ_eq_append_getElem, List.take_of_length_le (by have := HZ2.o; omega)]
       generalize s2.data.toList[s2.size - 1]'(by have := HZ2.o; omega) = x at hg HE0
       have HE := Ho HE0
       clear HE0
       have hsub : (s2.size : Int) - 1 = ((s2.size - 1 : Nat) : Int) := by omega
       cases h32 : ((x.toNat : Int) == 32) with
       | true =>
        have HBk := Ho (blk_yes32 h32)
        have HD := Ho (show trm (s2.extract 0 (s2.size - 1)).data.toList = r by
         rw [extr_take]
         have h1 := HQ2.o.2.1
         rw [HE.o, trm_back HBk.o] at h1
         exact h1)
        have HH := Ho (show ∀ x, (s2.extract 0 (s2.size - 1)).data.toList.head? = some x → blk x = false by
         intro y hy
         rw [extr_take] at hy
         refine HQ2.o.2.2 y ?_
         rw [HE.o]
         cases hl : s2.data.toList.take (s2.size - 1) with
         | nil => rw [hl] at hy; cases hy
         | cons a b => rw [hl] at hy; exact hy)
        have HSz := Ho (show (s2.extract 0 (s2.size - 1)).size = s2.size - 1 by rw [ByteArray.size_extract]; omega)
        go_wp2
        go_roundw
        all_goals first
         | exact ⟨_, rfl, by rw [HSz.o]; omega, Ho ⟨HQ2.o.1, HD.o, HH.o⟩⟩
         | (show s2.size - 0 = 0; omega)
         | (show (s2.extract 0 (s2.size - 1)).size < s2.size; rw [HSz.o]; omega)
         | (simp [szOf]; omega)
       | false =>
        cases h9 : ((x.toNat : Int) == 9) with
        | true =>
         have HBk := Ho (blk_yes9 h9)
         have HD := Ho (show trm (s2.extract 0 (s2.size - 1)).data.toList = r by
          rw [extr_take]
          have h1 := HQ2.o.2.1
          rw [HE.o, trm_back HBk.o] at h1
          exact h1)
         have HH := Ho (show ∀ x, (s2.extract 0 (s2.size - 1)).data.toList.head? = some x → blk x = false by
          intro y hy
          rw [extr_take] at hy
          refine HQ2.o.2.2 y ?_
          rw [HE.o]
          cases hl : s2.data.toList.take (s2.size - 1) with
          | nil => rw [hl] at hy; cases hy
          | cons a b => rw [hl] at hy; exact hy)
         have HSz := Ho (show (s2.extract 0 (s2.size - 1)).size = s2.size - 1 by rw [ByteArray.size_extract]; omega)
         go_wp2
         go_roundw
         all_goals first
          | exact ⟨_, rfl, by rw [HSz.o]; omega, Ho ⟨HQ2.o.1, HD.o, HH.o⟩⟩
          | (show s2.size - 0 = 0; omega)
          | (show (s2.extract 0 (s2.size - 1)).size < s2.size; rw [HSz.o]; omega)
          | (simp [szOf]; omega)
        | false =>
         have HT := Ho (show s2.data.toList = r by
          have h1 := HQ2.o.2.1
          rw [trm_id ⟨HQ2.o.2.2, fun y hy => ?_⟩] at h1
          · exact h1
          · rw [HE.o, List.getLast?_concat] at hy
            injection hy with hy
            rw [← hy]
            exact blk_no h32 h9)
         go_wp2
         go_ret
         rw [← HT.o, vs_data']
         exact ⟨rfl, HQ2.o.1⟩
     · have h0z : ¬ (0 : Int) < (s2.size : Int) := by omega
       have hem : s2.toList.isEmpty = true := emp_yes (by omega)
       have HT := Ho (show s2.data.toList = r by
        have h1 := HQ2.o.2.1
        have h2 : s2.data.toList = [] := List.eq_nil_of_length_eq_zero (by rw [← Go.Lib.size_eq]; omega)
        rw [h2] at h1 ⊢
        exact h1)
       go_wp2
       go_ret
       rw [← HT.o, vs_data']
       exact ⟨rfl, HQ2.o.1⟩
end Go.Proofs.YtkaoalcffgnfeaaGreatDoor
namespace Go.Proofs.YtkaoalcffgnfeaaGreatDoor
open Go.RowKit Go.Shelf TextNum
def pdd (b : List UInt8) (pad : Int) : List UInt8 := b ++ List.replicate (min pad.toNat 1100000) 120
set_option maxRecDepth 100000 in
set_option maxHeartbeats 1000000 in
theorem padded_walk (v : Value) (b : List UInt8) (pad : Int) (hb : b.length ≤ 1099511627) (w : World) (hS : Sb w v b) : Calls Tryz.prog 18 #[v, .int .i64 pad] w fun e w' => ∃ v', e = .returned v' ∧ Ow w' w.heap.size v' (pdd b pad) ∧ Up w w' := by
 have HS := Ho hS
 have HPd := Ho (show pdd b pad = b ++ List.replicate (min pad.toNat 1100000) 120 from rfl)
 clear hS
 obtain ⟨nb, hnb⟩ := ny b.length
 have HNb := Ho hnb
 rw [hnb] at hb
 clear hnb
 obtain ⟨aV, nV, cV, rfl⟩ := Sb.shape HS.o
 go_enter Tryz.func18, Tryz.ntmps18
 go_wp2_with (with_reducible refine sA ?_)
 show wpList _ _ _ _ _ _
 refine wpList_appSb (N := w.heap.size) rfl _ _ rfl none 0 [] _ b rfl rfl HS.o (World.ownsRow_nil _ _ _ _) (Nat.le_refl _) (by rw [HNb.o]; omega) ?_
 intro a1 c1' w1 o1 hu1
 have HU1 := Ho (hu1 w (Up.refl w) (Nat.le_refl _))
 rw [HNb.o, Nat.zero_add, List.nil_append] at o1
 rw [HNb.o, Nat.zero_add]
 have HO1 := Ho o1
 clear o1 hu1
 simp only [Act.put, pB, pC, pD]
 go_wp2
 go_loopw [5, 6] (fun v5 v6 wr => ∃ (i : Nat) (a5 : Option Addr) (c5 : Nat), v6 = .int .i64 (i : Int) ∧ v5 = .slice a5 (nb + i) c5 ∧ i ≤ 1100000 ∧ Hd (Up w wr ∧ wr.ownsRow w.heap.size 5 1 (.slice a5 (nb + i) c5) (nb + i) (cb (b ++ List.replicate i 120)) ∧ i ≤ min pad.toNat 1100000)) (fun _ v6 _ => 1100000 - (intOf v6).toNat)
 case atStart => exact ⟨0, a1, c1', rfl, rfl, by omega, Ho ⟨HU1.o, by simpa using HO1.o, Nat.zero_le _⟩⟩
 case round =>
  obtain ⟨i, a5, c5, rfl, rfl, hi, hQ⟩ := hrel
  have HQ := Ho hQ.o
  clear hQ
  by_cases hp : (i : Int) < pad
  · by_cases hm : i < 1100000
    · have hmz : (i : Int) < 1100000 := by omega
      have HX := Ho (show Sb (wr.alloc (.cells #[.int .u8 120] 5)) (.slice (some ⟨wr.heap.size, 0, none⟩) 1 1) [120] from by
       refine ⟨_, 1, rfl, by simp, by simp [maxLen], (fun e => by cases e), fun ad e => ?_⟩
       obtain rfl := Option.some.inj e
       exact ⟨fun _ => rfl, fun j u hj => by rw [Addr.add_lit]; exact At.cell (at_new wr 5 [.int .u8 120]) (i := 0 + j) (by rw [Nat.zero_add]; exact hj)⟩)
      go_wp2_with (with_reducible refine sA ?_)
      show wpList _ _ _ _ _ _
      refine wpList_appSb (N := w.heap.size) rfl _ _ rfl a5 c5 (b ++ List.replicate i 120) _ [120] rfl rfl HX.o (ow_up HQ.o.2.1 ((Up.refl wr).alloc _)) (Nat.le_trans HQ.o.1.size (by rw [alloc_size]; omega)) (by simp; omega) ?_
      intro a2 c2' w2 o2 hu2
      have HU2 := Ho (hu2 w (HQ.o.1.alloc _) (Nat.le_refl _))
      have HO2 := Ho (show w2.ownsRow w.heap.size 5 1 (.slice a2 (nb + (i + 1)) c2') (nb + (i + 1)) (cb (b ++ List.replicate (i + 1) 120)) by
       rw [List.replicate_succ', ← List.append_assoc, ← Nat.add_assoc]
       exact o2)
      clear o2 hu2
      simp only [Act.put, pB, pC, pD]
      simp only [List.length_cons, List.length_nil, Nat.zero_add]
      rw [show nb + i + 1 = nb + (i + 1) from Nat.add_assoc _ _ _]
      go_wp2
      go_roundw
      all_goals first
       | exact ⟨i + 1, a2, c2', by go_num, rfl, by omega, Ho ⟨HU2.o, HO2.o, by have := HQ.o.2.2; omega⟩⟩
       | (simp [intOf]; omega)
    · have hmz : ¬ (i : Int) < 1100000 := by omega
      have HE := Ho (show pdd b pad = b ++ List.replicate i 120 by rw [HPd.o, show min pad.toNat 1100000 = i by omega])
      have HL := Ho (show (b ++ List.replicate i 120).length = nb + i by simp [HNb.o])
      go_wp2
      go_ret
      refine ⟨_, rfl, ?_, HQ.o.1⟩
      rw [HE.o]
      unfold Ow
      rw [HL.o]
      exact HQ.o.2.1
  · have HE := Ho (show pdd b pad = b ++ List.replicate i 120 by rw [HPd.o, show min pad.toNat 1100000 = i by have := HQ.o.2.2; omega])
    have HL := Ho (show (b ++ List.replicate i 120).length = nb + i by simp [HNb.o])
    go_wp2
    go_ret
    refine ⟨_, rfl, ?_, HQ.o.1⟩
    rw [HE.o]
    unfold Ow
    rw [HL.o]
    exact HQ.o.2.1
end Go.Proofs.YtkaoalcffgnfeaaGreatDoor
namespace Go.Proofs.YtkaoalcffgnfeaaGreatDoor
open Go.RowKit Go.Shelf TextNum
def kn : List UInt8 := [80, 85, 84, 32, 47, 97, 32, 72, 84, 84, 80, 47, 49, 46, 49, 13, 10, 72, 111, 115, 116, 58, 32, 98, 13, 10, 67, 111, 110, 116, 101, 110, 116, 45, 76, 101, 110, 103, 116, 104, 58, 32, 50, 13, 10, 13, 10, 104, 105, 33]
def knX : Rq := ⟨[80, 85, 84], [47, 97], 1, [⟨⟨#[72, 111, 115, 116]⟩, ⟨#[98]⟩⟩, ⟨⟨#[67, 111, 110, 116, 101, 110, 116, 45, 76, 101, 110, 103, 116, 104]⟩, ⟨#[50]⟩⟩]⟩
theorem kn_hd : cHd 9 kn = .ok (kn.take 15, (kn.drop 17).take 28, 47) := by kernel_rfl
theorem kn_rql : rql (kn.take 15) = .ok ([80, 85, 84], [47, 97], 1) := by kernel_rfl
theorem kn_rdf : rdf ((kn.drop 17).take 28) = .ok knX.fs := by kernel_rfl
theorem kn_ckh : ckh knX.fs 1 = none := by kernel_rfl
theorem kn_frm : frm knX.fs 1 0 = .ok (2, 2) := by kernel_rfl
theorem kn_fcu : fcu 2 2 (kn.drop 47) = .ok ([104, 105], 2) := by kernel_rfl
theorem kn_cls : cls (knX.mi == 0) knX.fs = false := by kernel_rfl
theorem rq_kn : rqP kn = .ok ((knX, [104, 105]), 49) := by
 unfold rqP msg
 rw [kn_hd]
 dsimp only
 unfold rqg
 rw [kn_rql]
 dsimp only
 rw [kn_rdf]
 dsimp only
 rw [kn_ckh]
 dsimp only
 rw [kn_frm]
 dsimp only
 rw [kn_fcu]
 rfl
theorem kn_cells : (cb kn).toArray = #[.int .u8 80, .int .u8 85, .int .u8 84, .int .u8 32, .int .u8 47, .int .u8 97, .int .u8 32, .int .u8 72, .int .u8 84, .int .u8 84, .int .u8 80, .int .u8 47, .int .u8 49, .int .u8 46, .int .u8 49, .int .u8 13, .int .u8 10, .int .u8 72, .int .u8 111, .int .u8 115, .int .u8 116, .int .u8 58, .int .u8 32, .int .u8 98, .int .u8 13, .int .u8 10, .int .u8 67, .int .u8 111, .int .u8 110, .int .u8 116, .int .u8 101, .int .u8 110, .int .u8 116, .int .u8 45, .int .u8 76, .int .u8 101, .int .u8 110, .int .u8 103, .int .u8 116, .int .u8 104, .int .u8 58, .int .u8 32, .int .u8 50, .int .u8 13, .int .u8 10, .int .u8 13, .int .u8 10, .int .u8 104, .int .u8 105, .int .u8 33] := by kernel_rfl
theorem sb_mkl (w : World) (l : List UInt8) (m : Nat × Nat) (hl : l.length ≤ 1048576) : Sb (w.alloc (.cells (cb l).toArray 5 m)) (.slice (some ⟨w.heap.size, 0, none⟩) l.length l.length) l := by
 refine ⟨_, l.length, rfl, Nat.le_refl _, by unfold maxLen; omega, (fun e => by cases e), fun ad e => ?_⟩
 obtain rfl := Option.some.inj e
 refine ⟨fun _ => rfl, fun j u hj => ?_⟩
 rw [Addr.add_lit]
 unfold World.cell?
 dsimp only
 rw [heap_alloc_new w _, Nat.zero_add]
 simpa using hj
theorem knV (a : Option Addr) (c : Nat) (v : Value) : rqV knX a c v = .agg #[.string ⟨#[80, 85, 84]⟩, .string ⟨#[47, 97]⟩, .int .i64 1, .slice a 2 c, v, .bool false] := by
 unfold rqV
 rw [kn_cls]
 rfl
set_option maxRecDepth 100000 in
set_option maxHeartbeats 2000000 in
theorem known_walk (ad : Nat → Addr) (w : World) (hW : GW w ad) : Calls Tryz.prog 6 #[] w fun e w' => e = .returned (.bool true) ∧ Up w w' := by
 have hcv := Go.Lib.run_convert_bytes_const (P := Tryz.prog) w 23 5 #[.int .u8 80, .int .u8 85, .int .u8 84, .int .u8 32, .int .u8 47, .int .u8 97, .int .u8 32, .int .u8 72, .int .u8 84, .int .u8 84, .int .u8 80, .int .u8 47, .int .u8 49, .int .u8 46, .int .u8 49, .int .u8 13, .int .u8 10, .int .u8 72, .int .u8 111, .int .u8 115, .int .u8 116, .int .u8 58, .int .u8 32, .int .u8 98, .int .u8 13, .int .u8 10, .int .u8 67, .int .u8 111, .int .u8 110, .int .u8 116, .int .u8 101, .int .u8 110, .int .u8 116, .int .u8 45, .int .u8 76, .int .u8 101, .int .u8 110, .int .u8 103, .int .u8 116, .int .u8 104, .int .u8 58, .int .u8 32, .int .u8 50, .int .u8 13, .int .u8 10, .int .u8 13, .int .u8 10, .int .u8 104, .int .u8 105, .int .u8 33] 50 50 Tryz.underlying23 Tryz.underlying5
 have HSk := Ho (sb_mkl w kn (50, 51) (by decide))
 rw [kn_cells] at HSk
 have HU1 := Ho ((Up.refl w).alloc (.cells #[.int .u8 80, .int .u8 85, .int .u8 84, .int .u8 32, .int .u8 47, .int .u8 97, .int .u8 32, .int .u8 72, .int .u8 84, .int .u8 84, .int .u8 80, .int .u8 47, .int .u8 49, .int .u8 46, .int .u8 49, .int .u8 13, .int .u8 10, .int .u8 72, .int .u8 111, .int .u8 115, .int .u8 116, .int .u8 58, .int .u8 32, .int .u8 98, .int .u8 13, .int .u8 10, .int .u8 67, .int .u8 111, .int .u8 110, .int .u8 116, .int .u8 101, .int .u8 110, .int .u8 116, .int .u8 45, .int .u8 76, .int .u8 101, .int .u8 110, .int .u8 103, .int .u8 116, .int .u8 104, .int .u8 58, .int .u8 32, .int .u8 50, .int .u8 13, .int .u8 10, .int .u8 13, .int .u8 10, .int .u8 104, .int .u8 105, .int .u8 33] 5 (50, 51)))
 have HPq := Ho (ParseRequest_walk ad (n := 50) (c := 50) (by decide) _ HSk.o (hW.up HU1.o))
 rw [rq_kn] at HPq
 clear hW HSk
 go_enter Tryz.func6, Tryz.ntmps6
 go_wp2_with fail
 refine HPq.o.mono ?_
 rintro e w2 ⟨⟨a, c, v, rfl, hO⟩, h9⟩
 have HU2 := Ho (HU1.o.trans h9)
 have HSb := Ho (Ow.sb hO.o.2)
 clear h9 hO hcv HPq HU1
 obtain ⟨aB, nB, cB, rfl⟩ := Sb.shape HSb.o
 rw [knV]
 dsimp only
 have HU3 := Ho ((Up.refl w2).alloc (.cells #[.string ⟨#[80, 85, 84]⟩, .string ⟨#[47, 97]⟩, .int .i64 1, .slice a 2 c, .slice aB nB cB, .bool false] 36))
 have cv := conv_sb2 (HSb.o.up HU3.o)
 go_wp2
 go_ret
 exact ⟨rfl, HU2.o.alloc _⟩
end Go.Proofs.YtkaoalcffgnfeaaGreatDoor
namespace Go.Proofs.YtkaoalcffgnfeaaGreatDoor
open Go.RowKit TextNum
structure StL (w : World) (a : Option Addr) (ss : List ByteArray) (c : Nat) : Prop where
 cap : ss.length ≤ c
 cells : ∀ i (h : i < ss.length), ∃ b off, a = some ⟨b, off, none⟩ ∧ w.cell? ⟨b, off + i, none⟩ = some (.string ss[i])
theorem StL.up {w w' : World} {a : Option Addr} {ss : List ByteArray} {c : Nat} (h : StL w a ss c) (u : Up w w') : StL w' a ss c :=
 ⟨h.cap, fun i hi => by obtain ⟨b, off, e, k⟩ := h.cells i hi; exact ⟨b, off, e, u.cell k⟩⟩
def vat (ss : List ByteArray) (i : Nat) : ByteArray := ss.getD i ⟨#[]⟩
set_option maxRecDepth 100000 in
theorem value_walk (a : Option Addr) (ss : List ByteArray) (c i : Nat) (w : World) (h : StL w a ss c) : Calls Tryz.prog 39 #[.slice a ss.length c, .int .i64 (i : Int)] w fun e w' => e = .returned (.string (vat ss i)) ∧ w' = w := by
 have hcap := h.cap
 by_cases hi : i < ss.length
 · obtain ⟨b, off, rfl, k⟩ := h.cells i hi
   have hz : (i : Int) < (ss.length : Int) := by omega
   have HV := Ho (show vat ss i = ss[i] by unfold vat; rw [List.getD_eq_getElem?_getD, List.getElem?_eq_getElem hi]; rfl)
   rw [HV.o]
   generalize ss[i] = x at *
   clear h
   go_enter Tryz.func39, Tryz.ntmps39
   go_wp2
   go_ret
   exact ⟨rfl, rfl⟩
 · have hz : ¬ (i : Int) < (ss.length : Int) := by omega
   have HV := Ho (show vat ss i = ⟨#[]⟩ by unfold vat; rw [List.getD_eq_getElem?_getD, List.getElem?_eq_none (by omega)]; rfl)
   rw [HV.o]
   clear h
   go_enter Tryz.func39, Tryz.ntmps39
   go_wp2
   go_ret
   exact ⟨rfl, rfl⟩
theorem wpList_app1 {w : World} {N q : Nat} {ops : Array Oper} {rest : List Oper} {o : Oper} {a : Act} {Q : Exit → Act → World → Prop} (hgd : o.guard = none) (x y : Operand)
 (ho : o.op = .call { callee := .builtin .append, args := #[x, y], argTypes := #[23, 23] }) (ax : Option Addr) (cx : Nat) (xs : List UInt8) (b : UInt8) (hx : a.eval x = .slice ax q cx) (hy : a.eval y = .slice (some ⟨w.heap.size, 0, none⟩) 1 1)
 (hR : w.ownsRow N 5 1 (.slice ax q cx) q (cb xs)) (hNw : N ≤ w.heap.size) (hql : q ≤ 1099511627776)
 (K : ∀ ax2 cx2 w', w'.ownsRow N 5 1 (.slice ax2 (q + 1) cx2) (q + 1) (cb (xs ++ [b])) → (∀ W, Up W w → W.heap.size ≤ N → Up W w') → w.grownBy w' (Value.slice ax q cx).ownBlock → wpList Tryz.prog ops Q rest (a.put o.dst (.slice ax2 (q + 1) cx2)) w') :
 wpList Tryz.prog ops Q (o :: rest) a (w.alloc (.cells #[.int .u8 (b.toNat : Int)] 5)) := by
 obtain ⟨i0, hi0, hz0, hz1, hz2⟩ := info_parts Tryz.infoU8
 have HUx := (Up.refl w).alloc (.cells #[.int .u8 (b.toNat : Int)] 5)
 refine wpList_append_frs hgd x y 23 ho N 5 i0 (.int .u8 0) 1 Tryz.underlying23 hi0 hz0 hz1 hz2 rfl _ q _ hx (ow_up hR HUx) ⟨w.heap.size, 0, none⟩ 1 1 [.int .u8 (b.toNat : Int)] hy rfl ?_ ?_ (by simp only [maxLen]; omega) (by omega) (Nat.le_trans hNw HUx.size) ?_
 · intro j u hu
   rw [Addr.add_lit]
   exact At.cell (at_new w 5 [.int .u8 (b.toNat : Int)]) (i := 0 + j) (by rw [Nat.zero_add]; exact hu)
 · intro u hu
   obtain rfl := List.mem_singleton.1 hu
   rfl
 · intro v8 w8 o8 g8 _
   obtain ⟨a4, c4, rfl⟩ := row_len o8
   refine K a4 c4 w8 (by rw [cb_snoc]; exact o8) (fun W hU hW => up_grownBy (hU.trans HUx) g8 (fun g hg => Nat.le_trans hW (World.ownsRow.lt hR g hg).1)) (up_grown HUx g8)
set_option maxRecDepth 100000 in
set_option maxHeartbeats 1000000 in
theorem lowerL_walk (s : ByteArray) (w : World) (hs : s.size ≤ 1099511627776) : Calls Tryz.prog 76 #[.string s] w fun e w' => e = .returned (.string ⟨(lws s.data.toList).toArray⟩) ∧ Up w w' := by
 have HS := Ho (show s.size = s.data.toList.length from Go.Lib.size_eq s)
 go_enter Tryz.func76, Tryz.ntmps76
 go_wp2
 go_loopw [3, 4] (fun v3 v4 wr => ∃ i : Nat, v4 = .int .i64 (i : Int) ∧ i ≤ s.size ∧ ∃ a3 c3, v3 = .slice a3 i c3 ∧ Hd (wr.ownsRow w.heap.size 5 1 (.slice a3 i c3) i (cb (lws (s.data.toList.take i))) ∧ Up w wr)) (fun _ v4 _ => s.size - (intOf v4).toNat)
 case atStart => exact ⟨0, rfl, Nat.zero_le _, none, 0, rfl, Ho ⟨World.ownsRow_nil _ _ _ _, Up.refl _⟩⟩
 case round =>
  obtain ⟨i, rfl, hi, a3, c3, rfl, hQ⟩ := hrel
  have HQ := Ho hQ.o
  clear hQ
  by_cases hil : i < s.size
  · have hilz : (i : Int) < (s.size : Int) := by omega
    have hg := sget' s i hil
    have HT := Ho (lws_take (l := s.data.toList) (i := i) (by rw [← HS.o]; exact hil))
    generalize s.data.toList[i]'(by rw [← HS.o]; exact hil) = x at *
    have hx := x.toNat_lt
    by_cases h1 : 65 ≤ x.toNat
    · have z1 : (65 : Int) ≤ (x.toNat : Int) := by omega
      by_cases h2 : x.toNat ≤ 90
      case' _ =>
       have z2 : (x.toNat : Int) ≤ 90 := by omega
       have HL := Ho (lw_yes h1 h2)
       go_wp2_with (with_reducible refine sA ?_)
       show wpList _ _ _ _ _ _
       rw [show (x.toNat : Int) + 32 = ((lw x).toNat : Int) by rw [HL.o]; omega]
       refine wpList_app1 (N := w.heap.size) rfl _ _ rfl a3 c3 (lws (s.data.toList.take i)) (lw x) rfl rfl HQ.o.1 HQ.o.2.size (by omega) ?_
       intro a4 c4 w4 o4 u4 _
       have HO4 := Ho (And.intro (show w4.ownsRow w.heap.size 5 1 (.slice a4 (i + 1) c4) (i + 1) (cb (lws (s.data.toList.take (i + 1)))) by rw [HT.o]; exact o4) (u4 w HQ.o.2 (Nat.le_refl _)))
      rotate_left
      case' _ =>
       have z2 : ¬ (x.toNat : Int) ≤ 90 := by omega
       have HL := Ho (show lw x = x from lw_no (by omega))
       go_wp2_with (with_reducible refine sA ?_)
       show wpList _ _ _ _ _ _
       refine wpList_app1 (N := w.heap.size) rfl _ _ rfl a3 c3 (lws (s.data.toList.take i)) x rfl rfl HQ.o.1 HQ.o.2.size (by omega) ?_
       intro a4 c4 w4 o4 u4 _
       have HO4 := Ho (And.intro (show w4.ownsRow w.heap.size 5 1 (.slice a4 (i + 1) c4) (i + 1) (cb (lws (s.data.toList.take (i + 1)))) by rw [HT.o]; rw [HL.o]; exact o4) (u4 w HQ.o.2 (Nat.le_refl _)))
      all_goals
       clear o4 u4
       simp only [Act.put, pB, pC, pD]
       go_wp2
       go_roundw
       all_goals first
        | exact ⟨i + 1, by go_num, by omega, a4, c4, rfl, HO4⟩
        | (simp [intOf]; omega)
    · have z1 : ¬ (65 : Int) ≤ (x.toNat : Int) := by omega
      have HL := Ho (show lw x = x from lw_no (by omega))
      go_wp2_with (with_reducible refine sA ?_)
      show wpList _ _ _ _ _ _
      refine wpList_app1 (N := w.heap.size) rfl _ _ rfl a3 c3 (lws (s.data.toList.take i)) x rfl rfl HQ.o.1 HQ.o.2.size (by omega) ?_
      intro a4 c4 w4 o4 u4 _
      have HO4 := Ho (And.intro (show w4.ownsRow w.heap.size 5 1 (.slice a4 (i + 1) c4) (i + 1) (cb (lws (s.data.toList.take (i + 1)))) by rw [HT.o]; rw [HL.o]; exact o4) (u4 w HQ.o.2 (Nat.le_refl _)))
      clear o4 u4
      simp only [Act.put, pB, pC, pD]
      go_wp2
      go_roundw
      all_goals first
       | exact ⟨i + 1, by go_num, by omega, a4, c4, rfl, HO4⟩
       | (simp [intOf]; omega)
  · have hilz : ¬ (i : Int) < (s.size : Int) := by omega
    have HT := Ho (show s.data.toList.take i = s.data.toList from List.take_of_length_le (by rw [← HS.o]; omega))
    have hil2 : (lws (s.data.toList.take i)).length = i := by rw [lws_len, HT.o, ← HS.o]; omega
    have hSb : Sb wr (.slice a3 i c3) (lws (s.data.toList.take i)) := Ow.sb (B := w.heap.size) (by unfold Ow; rw [hil2]; exact HQ.o.1)
    have hcv := conv_sb2 hSb
    rw [HT.o] at hcv
    clear hSb hil2
    go_wp2
    go_ret
    exact ⟨rfl, HQ.o.2⟩
def mkF (ns vs : List ByteArray) : List FD := ns.zipIdx.map fun p => ⟨p.1, vat vs p.2⟩
theorem mkF_len (ns vs : List ByteArray) : (mkF ns vs).length = ns.length := by simp [mkF]
theorem mkF_get {ns vs : List ByteArray} {i : Nat} (h : i < ns.length) (h' : i < (mkF ns vs).length) : (mkF ns vs)[i] = ⟨ns[i], vat vs i⟩ := by
 simp [mkF]
end Go.Proofs.YtkaoalcffgnfeaaGreatDoor
namespace Go.Proofs.YtkaoalcffgnfeaaGreatDoor
open Go.RowKit TextNum
def JF (M m : Nat) (back : List UInt8) : Prop := (back ≠ [] ∧ m = 0 ∧ Go.Lib.decDigits M = back.reverse) ∨ ((back = [] ∨ m ≠ 0) ∧ Go.Lib.decDigits M = Go.Lib.decDigits m ++ back.reverse)
theorem JF.step {M m : Nat} {back : List UInt8} (h : JF M m back) (hb : back = [] ∨ m ≠ 0) : JF M (m / 10) (back ++ [UInt8.ofNat (48 + m % 10)]) := by
 rcases h with ⟨h1, h2, _⟩ | ⟨_, h⟩
 · rcases hb with hb | hb
   · exact absurd hb h1
   · exact absurd h2 hb
 · by_cases hm : m < 10
   · refine .inl ⟨by simp, by omega, ?_⟩
     rw [h, Go.Lib.decDigits_one hm, Nat.mod_eq_of_lt hm]; simp
   · refine .inr ⟨.inr (by omega), ?_⟩
     rw [h, Go.Lib.decDigits, dif_neg hm]; simp
theorem JF.len {M m : Nat} {back : List UInt8} (h : JF M m back) : back.length ≤ (Go.Lib.decDigits M).length := by
 rcases h with ⟨_, _, h⟩ | ⟨_, h⟩ <;> rw [h] <;> simp
theorem JF.end' {M : Nat} {back : List UInt8} (h : JF M 0 back) (hb : back ≠ []) : Go.Lib.decDigits M = back.reverse := by
 rcases h with ⟨_, _, h⟩ | ⟨h1, _⟩
 · exact h
 · rcases h1 with h1 | h1
   · exact absurd h1 hb
   · exact absurd rfl h1
theorem dig_len {M : Nat} (h : M ≤ 9223372036854775808) : (Go.Lib.decDigits M).length ≤ 20 := by
 rcases Nat.lt_or_ge M 9223372036854775808 with h1 | h1
 · have := (itoa_len (M : Int) (by omega) (by omega)).1
   rw [itoa_nat] at this; exact this
 · obtain rfl : M = 9223372036854775808 := by omega
   have := (itoa_len (-9223372036854775808) (by omega) (by omega)).1
   simp [Go.Lib.itoa] at this; omega
theorem rev_take {l : List UInt8} {i : Nat} (h : i < l.length) : (l.drop (i + 1)).reverse ++ [l[i]] = (l.drop i).reverse := by
 rw [List.drop_eq_getElem_cons h, List.reverse_cons]
theorem dig_toNat' {d : Nat} (h : d < 10) : (UInt8.ofNat (48 + d)).toNat = 48 + d := by
 rw [UInt8.toNat_ofNat', Nat.mod_eq_of_lt (by omega)]
def lnV : Value → Nat
 | .slice _ n _ => n
 | _ => 0
set_option maxRecDepth 100000 in
set_option maxHeartbeats 2000000 in
theorem RFormatNumber_walk (n : Int) (h0 : -9223372036854775808 ≤ n) (h1 : n ≤ 9223372036854775807) (w : World) :
 Calls Tryz.prog 31 #[.int .i64 n] w fun e w' => e = .returned (vs (Go.Lib.itoa n)) ∧ Up w w' := by
 obtain ⟨M, hM⟩ := ny (n.natAbs : Nat)
 have HE := Ho (show Go.Lib.itoa n = (if n < 0 then [45] else []) ++ Go.Lib.decDigits M by
  rcases Int.lt_or_le n 0 with h | h
  · rw [if_pos h]
    unfold Go.Lib.itoa
    rw [if_pos h, ← hM]
    rfl
  · rw [if_neg (by omega)]
    have e : n = (M : Int) := by omega
    rw [e, itoa_nat]
    rfl)
 have hMb : M ≤ 9223372036854775808 := by omega
 have HM := Ho hM
 clear hM
 go_enter Tryz.func31, Tryz.ntmps31
 obtain ⟨z0, hz0⟩ : ∃ z0 : Int, z0 = -(M : Int) := ⟨_, rfl⟩
 have hzb : -9223372036854775808 ≤ z0 ∧ z0 ≤ 0 := by omega
 have HZ0 := Ho hz0
 by_cases hn : 0 < n
 · have hng : -n = z0 := by have := HM.o; omega
   clear hz0
   go_wp2
   clear hng
   go_loopw [3, 4] (fun v3 v4 wr => ∃ (z : Int) (m q : Nat) (a4 : Option Addr) (c4 : Nat), v3 = .int .i64 z ∧ -9223372036854775808 ≤ z ∧ z ≤ 0 ∧ v4 = .slice a4 q c4 ∧ q ≤ 20 ∧ Hd (z = -(m : Int)) ∧ Hd (∃ back : List UInt8, back.length = q ∧ JF M m back ∧ wr.ownsRow w.heap.size 5 1 (.slice a4 q c4) q (cb back) ∧ Up w wr)) (fun v3 v4 _ => 2 * (intOf v3).natAbs + (1 - lnV v4))
   case atStart => exact ⟨z0, M, 0, none, 0, rfl, hzb.1, hzb.2, rfl, by omega, HZ0, Ho ⟨[], rfl, .inr ⟨.inl rfl, by simp⟩, World.ownsRow_nil _ _ _ _, Up.refl _⟩⟩
   case round =>
    obtain ⟨z, m, q, a4, c4, rfl, hz0, hz1, rfl, hq20, hzm, hI⟩ := hrel
    obtain ⟨back, hbl, hJ, hO, hU⟩ := hI.o
    have HBl := Ho hbl
    have HJ := Ho hJ
    have HO := Ho hO
    have HU := Ho hU
    clear hI hbl hJ hO hU
    by_cases hx : q = 0 ∨ m ≠ 0
    · have hd : m % 10 < 10 := Nat.mod_lt _ (by decide)
      have hr : z.tmod 10 = -((m % 10 : Nat) : Int) := by rw [hzm.o, Int.neg_tmod, Int.tmod_eq_emod_of_nonneg (by omega)]; rfl
      have hq : z.tdiv 10 = -((m / 10 : Nat) : Int) := by rw [hzm.o, Int.neg_tdiv, Int.tdiv_eq_ediv_of_nonneg (by omega)]; rfl
      have HS := Ho (HJ.o.step (by
       rcases hx with h | h
       · exact .inl (List.eq_nil_of_length_eq_zero (by rw [HBl.o]; exact h))
       · exact .inr h))
      have HS20 := Ho (show (back ++ [UInt8.ofNat (48 + m % 10)]).length ≤ 20 from Nat.le_trans HS.o.len (dig_len hMb))
      have HW := Ho (show (q = 0 → 2 * (m / 10) < 2 * m + 1) ∧ (q ≠ 0 → 2 * (m / 10) < 2 * m) from ⟨fun _ => by omega, fun hb => by
       rcases hx with h | h
       · exact absurd h hb
       · omega⟩)
      have HMZ := Ho (show z.natAbs = m by have := hzm.o; omega)
      have hzb2 : (m / 10 : Nat) ≤ 922337203685477580 := by have := hzm.o; omega
      obtain ⟨x, hxx⟩ : ∃ x : UInt8, x = UInt8.ofNat (48 + m % 10) := ⟨_, rfl⟩
      have hxn : 48 + ((m % 10 : Nat) : Int) = (x.toNat : Int) := by rw [hxx, dig_toNat' hd]; omega
      rw [← hxx] at HS HS20
      clear hxx
      have hxl : x.toNat < 256 := x.toNat_lt
      have hcond : ((q : Int) == 0) = true ∨ (((q : Int) == 0) = false ∧ (z != 0) = true) := by
       by_cases hb : q = 0
       · left; rw [hb]; rfl
       · right
         have hm := hx.resolve_left hb
         have := hzm.o
         refine ⟨?_, ?_⟩
         · simp; omega
         · simp; omega
      clear hx hzm HJ
      generalize m % 10 = d at *
      generalize m / 10 = m' at *
      have hq19 : q + 1 ≤ 20 := by have h := HS20.o; rw [List.length_append, HBl.o] at h; exact h
      rcases hcond with hc1 | ⟨hc1, hc2⟩
      ·
       go_wp2_with (with_reducible refine sA ?_)
       show wpList _ _ _ _ _ _
       refine wpList_app1 (N := w.heap.size) rfl _ _ rfl a4 c4 back x rfl rfl HO.o HU.o.size (by omega) ?_
       intro a5 c5 w5 o5 u5 _
       have HO5 := Ho o5
       have HU5 := Ho (u5 w HU.o (Nat.le_refl _))
       have HL5 := Ho (show (back ++ [x]).length = q + 1 by rw [List.length_append, HBl.o]; rfl)
       clear o5 u5
       simp only [Act.put, pB, pC, pD]
       go_wp2
       go_roundw
       case rel => exact ⟨-(m' : Int), m', q + 1, a5, c5, rfl, by omega, by omega, rfl, hq19, Ho rfl, Ho ⟨back ++ [x], HL5.o, HS.o, HO5.o, HU5.o⟩⟩
       case measure =>
        simp only [intOf, lnV, HMZ.o]
        by_cases hb : q = 0
        · have := HW.o.1 hb; omega
        · have := HW.o.2 hb; omega
      ·
       go_wp2_with (with_reducible refine sA ?_)
       show wpList _ _ _ _ _ _
       refine wpList_app1 (N := w.heap.size) rfl _ _ rfl a4 c4 back x rfl rfl HO.o HU.o.size (by omega) ?_
       intro a5 c5 w5 o5 u5 _
       have HO5 := Ho o5
       have HU5 := Ho (u5 w HU.o (Nat.le_refl _))
       have HL5 := Ho (show (back ++ [x]).length = q + 1 by rw [List.length_append, HBl.o]; rfl)
       clear o5 u5
       simp only [Act.put, pB, pC, pD]
       go_wp2
       go_roundw
       case rel => exact ⟨-(m' : Int), m', q + 1, a5, c5, rfl, by omega, by omega, rfl, hq19, Ho rfl, Ho ⟨back ++ [x], HL5.o, HS.o, HO5.o, HU5.o⟩⟩
       case measure =>
        simp only [intOf, lnV, HMZ.o]
        by_cases hb : q = 0
        · have := HW.o.1 hb; omega
        · have := HW.o.2 hb; omega
    · have hx1 : q ≠ 0 := fun h => hx (.inl h)
      have hx2 : m = 0 := by
       rcases Nat.eq_zero_or_pos m with h | h
       · exact h
       · exact absurd (Or.inr (by omega)) hx
      subst hx2
      obtain rfl : z = 0 := by have := hzm.o; omega
      have HD := Ho (HJ.o.end' (fun e => hx1 (by rw [← HBl.o, e]; rfl)))
      have hc1 : ((q : Int) == 0) = false := by simp; omega
      have HSb := Ho (Ow.sb (show Ow wr w.heap.size (.slice a4 q c4) back by unfold Ow; rw [HBl.o]; exact HO.o))
      clear hx hzm HJ HO
      obtain ⟨wb, hwb⟩ : ∃ wb, wb = wr := ⟨_, rfl⟩
      subst hwb
      obtain ⟨N2, hN2⟩ := ny wb.heap.size
      have HN2 := Ho hN2
      clear hN2
      have HPre := Ho (show Go.Lib.itoa n = [] ++ back.reverse by rw [HE.o, if_neg (by omega), HD.o])
      go_wp2
      go_loopw [5, 6] (fun v5 v6 wr => ∃ (j k : Nat) (a5 : Option Addr) (c5 : Nat), v6 = .int .i64 ((j : Int) - 1) ∧ j ≤ q ∧ v5 = .slice a5 k c5 ∧ k ≤ 1 + (q - j) ∧ Hd (wr.ownsRow N2 5 1 (.slice a5 k c5) k (cb (([] : List UInt8) ++ (back.drop j).reverse)) ∧ Up wb wr)) (fun _ v6 _ => (intOf v6 + 1).toNat)
      case atStart => exact ⟨q, 0, none, 0, rfl, Nat.le_refl _, rfl, by omega, Ho ⟨by rw [List.drop_of_length_le (by rw [HBl.o]; exact Nat.le_refl _)]; exact World.ownsRow_nil _ _ _ _, Up.refl _⟩⟩
      case round =>
       obtain ⟨j, k, a5, c5, rfl, hj, rfl, hk, hI⟩ := hrel
       have HO := Ho hI.o.1
       have HU2 := Ho hI.o.2
       clear hI
       by_cases hj0 : 0 < j
       · obtain ⟨i, rfl⟩ : ∃ i, j = i + 1 := ⟨j - 1, by omega⟩
         have hii : i < back.length := by rw [HBl.o]; omega
         have hjz : (0 : Int) ≤ ((i + 1 : Nat) : Int) - 1 := by omega
         have hjn : ((i + 1 : Nat) : Int) - 1 = (i : Int) := by omega
         obtain ⟨b7, o7, rfl, hc7⟩ := (HSb.o.up HU2.o).get hii
         have HRv := Ho (rev_take hii)
         generalize back[i]'hii = x at hc7 HRv
         rw [hjn]
         clear hjn hjz hii
         have hiz : (0 : Int) ≤ (i : Int) := by omega
         have hiq : (i : Int) < (q : Int) := by omega
         go_wp2_with (with_reducible refine sA ?_)
         show wpList _ _ _ _ _ _
         refine wpList_app1 (N := N2) rfl _ _ rfl a5 c5 _ x rfl rfl HO.o (by rw [← HN2.o]; exact HU2.o.size) (by omega) ?_
         intro a6 c6 w6 o6 u6 _
         have HO6 := Ho (show w6.ownsRow N2 5 1 (.slice a6 (k + 1) c6) (k + 1) (cb (([] : List UInt8) ++ (back.drop i).reverse)) by rw [← HRv.o, ← List.append_assoc]; exact o6)
         have HU6 := Ho (u6 wb HU2.o (by rw [HN2.o]; exact Nat.le_refl _))
         clear o6 u6 hc7
         simp only [Act.put, pB, pC, pD]
         go_wp2
         go_roundw
         all_goals first
          | exact ⟨i, k + 1, a6, c6, by go_num, by omega, rfl, by omega, Ho ⟨HO6.o, HU6.o⟩⟩
          | (simp [intOf]; omega)
          | (simp [intOf]; done)
       · have hj1 : j = 0 := by omega
         subst hj1
         have hjz : ¬ (0 : Int) ≤ ((0 : Nat) : Int) - 1 := by omega
         have HSe := Ho (show Sb wr (.slice a5 k c5) (Go.Lib.itoa n) from Ow.sb (B := N2) (by
          have h1 := HO.o
          rw [List.drop_zero, ← HPre.o] at h1
          unfold Ow
          have h2 := h1.1
          rw [cb_length, Nat.mul_one] at h2
          rw [h2]
          exact h1))
         have hcv := conv_sb2 HSe.o
         go_wp2
         go_ret
         exact ⟨rfl, HU.o.trans HU2.o⟩
 · obtain rfl : n = z0 := by have := HM.o; omega
   clear hz0
   go_wp2
   go_loopw [3, 4] (fun v3 v4 wr => ∃ (z : Int) (m q : Nat) (a4 : Option Addr) (c4 : Nat), v3 = .int .i64 z ∧ -9223372036854775808 ≤ z ∧ z ≤ 0 ∧ v4 = .slice a4 q c4 ∧ q ≤ 20 ∧ Hd (z = -(m : Int)) ∧ Hd (∃ back : List UInt8, back.length = q ∧ JF M m back ∧ wr.ownsRow w.heap.size 5 1 (.slice a4 q c4) q (cb back) ∧ Up w wr)) (fun v3 v4 _ => 2 * (intOf v3).natAbs + (1 - lnV v4))
   case atStart => exact ⟨n, M, 0, none, 0, rfl, hzb.1, hzb.2, rfl, by omega, HZ0, Ho ⟨[], rfl, .inr ⟨.inl rfl, by simp⟩, World.ownsRow_nil _ _ _ _, Up.refl _⟩⟩
   case round =>
    obtain ⟨z, m, q, a4, c4, rfl, hz0, hz1, rfl, hq20, hzm, hI⟩ := hrel
    obtain ⟨back, hbl, hJ, hO, hU⟩ := hI.o
    have HBl := Ho hbl
    have HJ := Ho hJ
    have HO := Ho hO
    have HU := Ho hU
    clear hI hbl hJ hO hU
    by_cases hx : q = 0 ∨ m ≠ 0
    · have hd : m % 10 < 10 := Nat.mod_lt _ (by decide)
      have hr : z.tmod 10 = -((m % 10 : Nat) : Int) := by rw [hzm.o, Int.neg_tmod, Int.tmod_eq_emod_of_nonneg (by omega)]; rfl
      have hq : z.tdiv 10 = -((m / 10 : Nat) : Int) := by rw [hzm.o, Int.neg_tdiv, Int.tdiv_eq_ediv_of_nonneg (by omega)]; rfl
      have HS := Ho (HJ.o.step (by
       rcases hx with h | h
       · exact .inl (List.eq_nil_of_length_eq_zero (by rw [HBl.o]; exact h))
       · exact .inr h))
      have HS20 := Ho (show (back ++ [UInt8.ofNat (48 + m % 10)]).length ≤ 20 from Nat.le_trans HS.o.len (dig_len hMb))
      have HW := Ho (show (q = 0 → 2 * (m / 10) < 2 * m + 1) ∧ (q ≠ 0 → 2 * (m / 10) < 2 * m) from ⟨fun _ => by omega, fun hb => by
       rcases hx with h | h
       · exact absurd h hb
       · omega⟩)
      have HMZ := Ho (show z.natAbs = m by have := hzm.o; omega)
      have hzb2 : (m / 10 : Nat) ≤ 922337203685477580 := by have := hzm.o; omega
      obtain ⟨x, hxx⟩ : ∃ x : UInt8, x = UInt8.ofNat (48 + m % 10) := ⟨_, rfl⟩
      have hxn : 48 + ((m % 10 : Nat) : Int) = (x.toNat : Int) := by rw [hxx, dig_toNat' hd]; omega
      rw [← hxx] at HS HS20
      clear hxx
      have hxl : x.toNat < 256 := x.toNat_lt
      have hcond : ((q : Int) == 0) = true ∨ (((q : Int) == 0) = false ∧ (z != 0) = true) := by
       by_cases hb : q = 0
       · left; rw [hb]; rfl
       · right
         have hm := hx.resolve_left hb
         have := hzm.o
         refine ⟨?_, ?_⟩
         · simp; omega
         · simp; omega
      clear hx hzm HJ
      generalize m % 10 = d at *
      generalize m / 10 = m' at *
      have hq19 : q + 1 ≤ 20 := by have h := HS20.o; rw [List.length_append, HBl.o] at h; exact h
      rcases hcond with hc1 | ⟨hc1, hc2⟩
      ·
       go_wp2_with (with_reducible refine sA ?_)
       show wpList _ _ _ _ _ _
       refine wpList_app1 (N := w.heap.size) rfl _ _ rfl a4 c4 back x rfl rfl HO.o HU.o.size (by omega) ?_
       intro a5 c5 w5 o5 u5 _
       have HO5 := Ho o5
       have HU5 := Ho (u5 w HU.o (Nat.le_refl _))
       have HL5 := Ho (show (back ++ [x]).length = q + 1 by rw [List.length_append, HBl.o]; rfl)
       clear o5 u5
       simp only [Act.put, pB, pC, pD]
       go_wp2
       go_roundw
       case rel => exact ⟨-(m' : Int), m', q + 1, a5, c5, rfl, by omega, by omega, rfl, hq19, Ho rfl, Ho ⟨back ++ [x], HL5.o, HS.o, HO5.o, HU5.o⟩⟩
       case measure =>
        simp only [intOf, lnV, HMZ.o]
        by_cases hb : q = 0
        · have := HW.o.1 hb; omega
        · have := HW.o.2 hb; omega
      ·
       go_wp2_with (with_reducible refine sA ?_)
       show wpList _ _ _ _ _ _
       refine wpList_app1 (N := w.heap.size) rfl _ _ rfl a4 c4 back x rfl rfl HO.o HU.o.size (by omega) ?_
       intro a5 c5 w5 o5 u5 _
       have HO5 := Ho o5
       have HU5 := Ho (u5 w HU.o (Nat.le_refl _))
       have HL5 := Ho (show (back ++ [x]).length = q + 1 by rw [List.length_append, HBl.o]; rfl)
       clear o5 u5
       simp only [Act.put, pB, pC, pD]
       go_wp2
       go_roundw
       case rel => exact ⟨-(m' : Int), m', q + 1, a5, c5, rfl, by omega, by omega, rfl, hq19, Ho rfl, Ho ⟨back ++ [x], HL5.o, HS.o, HO5.o, HU5.o⟩⟩
       case measure =>
        simp only [intOf, lnV, HMZ.o]
        by_cases hb : q = 0
        · have := HW.o.1 hb; omega
        · have := HW.o.2 hb; omega
    · have hx1 : q ≠ 0 := fun h => hx (.inl h)
      have hx2 : m = 0 := by
       rcases Nat.eq_zero_or_pos m with h | h
       · exact h
       · exact absurd (Or.inr (by omega)) hx
      subst hx2
      obtain rfl : z = 0 := by have := hzm.o; omega
      have HD := Ho (HJ.o.end' (fun e => hx1 (by rw [← HBl.o, e]; rfl)))
      have hc1 : ((q : Int) == 0) = false := by simp; omega
      have HSb := Ho (Ow.sb (show Ow wr w.heap.size (.slice a4 q c4) back by unfold Ow; rw [HBl.o]; exact HO.o))
      clear hx hzm HJ HO
      obtain ⟨wb, hwb⟩ : ∃ wb, wb = wr := ⟨_, rfl⟩
      subst hwb
      obtain ⟨N2, hN2⟩ := ny wb.heap.size
      have HN2 := Ho hN2
      clear hN2
      by_cases hneg : n < 0
      · have HPre := Ho (show Go.Lib.itoa n = [45] ++ back.reverse by rw [HE.o, if_pos hneg, HD.o])
        go_wp2_with (with_reducible refine sA ?_)
        show wpList _ _ _ _ _ _
        refine wpList_app1 (w := wb) (N := N2) rfl _ _ rfl none 0 [] 45 rfl rfl (World.ownsRow_nil _ _ _ _) (by rw [HN2.o]; exact Nat.le_refl _) (by omega) ?_
        intro a9 c9 w9 o9 u9 _
        have HO9 := Ho (show w9.ownsRow N2 5 1 (.slice a9 1 c9) 1 (cb ([45] ++ ([] : List UInt8).reverse)) from o9)
        have HU9 := Ho (u9 wb (Up.refl _) (by rw [HN2.o]; exact Nat.le_refl _))
        clear o9 u9
        simp only [Act.put, pB, pC, pD]
        go_wp2
        go_loopw [5, 6] (fun v5 v6 wr => ∃ (j k : Nat) (a5 : Option Addr) (c5 : Nat), v6 = .int .i64 ((j : Int) - 1) ∧ j ≤ q ∧ v5 = .slice a5 k c5 ∧ k ≤ 1 + (q - j) ∧ Hd (wr.ownsRow N2 5 1 (.slice a5 k c5) k (cb ([45] ++ (back.drop j).reverse)) ∧ Up wb wr)) (fun _ v6 _ => (intOf v6 + 1).toNat)
        case atStart => exact ⟨q, 1, a9, c9, rfl, Nat.le_refl _, rfl, by omega, Ho ⟨by rw [List.drop_of_length_le (by rw [HBl.o]; exact Nat.le_refl _)]; exact HO9.o, HU9.o⟩⟩
        case round =>
         obtain ⟨j, k, a5, c5, rfl, hj, rfl, hk, hI⟩ := hrel
         have HO := Ho hI.o.1
         have HU2 := Ho hI.o.2
         clear hI
         by_cases hj0 : 0 < j
         · obtain ⟨i, rfl⟩ : ∃ i, j = i + 1 := ⟨j - 1, by omega⟩
           have hii : i < back.length := by rw [HBl.o]; omega
           have hjz : (0 : Int) ≤ ((i + 1 : Nat) : Int) - 1 := by omega
           have hjn : ((i + 1 : Nat) : Int) - 1 = (i : Int) := by omega
           obtain ⟨b7, o7, rfl, hc7⟩ := (HSb.o.up HU2.o).get hii
           have HRv := Ho (rev_take hii)
           generalize back[i]'hii = x at hc7 HRv
           rw [hjn]
           clear hjn hjz hii
           have hiz : (0 : Int) ≤ (i : Int) := by omega
           have hiq : (i : Int) < (q : Int) := by omega
           go_wp2_with (with_reducible refine sA ?_)
           show wpList _ _ _ _ _ _
           refine wpList_app1 (N := N2) rfl _ _ rfl a5 c5 _ x rfl rfl HO.o (by rw [← HN2.o]; exact HU2.o.size) (by omega) ?_
           intro a6 c6 w6 o6 u6 _
           have HO6 := Ho (show w6.ownsRow N2 5 1 (.slice a6 (k + 1) c6) (k + 1) (cb ([45] ++ (back.drop i).reverse)) by rw [← HRv.o, ← List.append_assoc]; exact o6)
           have HU6 := Ho (u6 wb HU2.o (by rw [HN2.o]; exact Nat.le_refl _))
           clear o6 u6 hc7
           simp only [Act.put, pB, pC, pD]
           go_wp2
           go_roundw
           all_goals first
            | exact ⟨i, k + 1, a6, c6, by go_num, by omega, rfl, by omega, Ho ⟨HO6.o, HU6.o⟩⟩
            | (simp [intOf]; omega)
            | (simp [intOf]; done)
         · have hj1 : j = 0 := by omega
           subst hj1
           have hjz : ¬ (0 : Int) ≤ ((0 : Nat) : Int) - 1 := by omega
           have HSe := Ho (show Sb wr (.slice a5 k c5) (Go.Lib.itoa n) from Ow.sb (B := N2) (by
            have h1 := HO.o
            rw [List.drop_zero, ← HPre.o] at h1
            unfold Ow
            have h2 := h1.1
            rw [cb_length, Nat.mul_one] at h2
            rw [h2]
            exact h1))
           have hcv := conv_sb2 HSe.o
           go_wp2
           go_ret
           exact ⟨rfl, HU.o.trans HU2.o⟩
      · have HPre := Ho (show Go.Lib.itoa n = [] ++ back.reverse by rw [HE.o, if_neg hneg, HD.o])
        go_wp2
        go_loopw [5, 6] (fun v5 v6 wr => ∃ (j k : Nat) (a5 : Option Addr) (c5 : Nat), v6 = .int .i64 ((j : Int) - 1) ∧ j ≤ q ∧ v5 = .slice a5 k c5 ∧ k ≤ 1 + (q - j) ∧ Hd (wr.ownsRow N2 5 1 (.slice a5 k c5) k (cb (([] : List UInt8) ++ (back.drop j).reverse)) ∧ Up wb wr)) (fun _ v6 _ => (intOf v6 + 1).toNat)
        case atStart => exact ⟨q, 0, none, 0, rfl, Nat.le_refl _, rfl, by omega, Ho ⟨by rw [List.drop_of_length_le (by rw [HBl.o]; exact Nat.le_refl _)]; exact World.ownsRow_nil _ _ _ _, Up.refl _⟩⟩
        case round =>
         obtain ⟨j, k, a5, c5, rfl, hj, rfl, hk, hI⟩ := hrel
         have HO := Ho hI.o.1
         have HU2 := Ho hI.o.2
         clear hI
         by_cases hj0 : 0 < j
         · obtain ⟨i, rfl⟩ : ∃ i, j = i + 1 := ⟨j - 1, by omega⟩
           have hii : i < back.length := by rw [HBl.o]; omega
           have hjz : (0 : Int) ≤ ((i + 1 : Nat) : Int) - 1 := by omega
           have hjn : ((i + 1 : Nat) : Int) - 1 = (i : Int) := by omega
           obtain ⟨b7, o7, rfl, hc7⟩ := (HSb.o.up HU2.o).get hii
           have HRv := Ho (rev_take hii)
           generalize back[i]'hii = x at hc7 HRv
           rw [hjn]
           clear hjn hjz hii
           have hiz : (0 : Int) ≤ (i : Int) := by omega
           have hiq : (i : Int) < (q : Int) := by omega
           go_wp2_with (with_reducible refine sA ?_)
           show wpList _ _ _ _ _ _
           refine wpList_app1 (N := N2) rfl _ _ rfl a5 c5 _ x rfl rfl HO.o (by rw [← HN2.o]; exact HU2.o.size) (by omega) ?_
           intro a6 c6 w6 o6 u6 _
           have HO6 := Ho (show w6.ownsRow N2 5 1 (.slice a6 (k + 1) c6) (k + 1) (cb (([] : List UInt8) ++ (back.drop i).reverse)) by rw [← HRv.o, ← List.append_assoc]; exact o6)
           have HU6 := Ho (u6 wb HU2.o (by rw [HN2.o]; exact Nat.le_refl _))
           clear o6 u6 hc7
           simp only [Act.put, pB, pC, pD]
           go_wp2
           go_roundw
           all_goals first
            | exact ⟨i, k + 1, a6, c6, by go_num, by omega, rfl, by omega, Ho ⟨HO6.o, HU6.o⟩⟩
            | (simp [intOf]; omega)
            | (simp [intOf]; done)
         · have hj1 : j = 0 := by omega
           subst hj1
           have hjz : ¬ (0 : Int) ≤ ((0 : Nat) : Int) - 1 := by omega
           have HSe := Ho (show Sb wr (.slice a5 k c5) (Go.Lib.itoa n) from Ow.sb (B := N2) (by
            have h1 := HO.o
            rw [List.drop_zero, ← HPre.o] at h1
            unfold Ow
            have h2 := h1.1
            rw [cb_length, Nat.mul_one] at h2
            rw [h2]
            exact h1))
           have hcv := conv_sb2 HSe.o
           go_wp2
           go_ret
           exact ⟨rfl, HU.o.trans HU2.o⟩
end Go.Proofs.YtkaoalcffgnfeaaGreatDoor
