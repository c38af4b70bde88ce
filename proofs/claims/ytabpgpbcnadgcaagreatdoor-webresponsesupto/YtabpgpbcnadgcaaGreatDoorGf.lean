import Derived.Test.YtabpgpbcnadgcaaGreatDoorYd
import Derived.Test.YtabpgpbcnadgcaaGreatDoorYb
namespace Go.Proofs.YtabpgpbcnadgcaaGreatDoor
open Go.RowKit Go.Shelf TextNum
/-- the line that begins there, and where the next one begins -/
def lnA (l : List UInt8) (k : Nat) : List UInt8 × Int := match fnl (l.drop k) with
  | none => ([], -1)
  | some i => (tcr ((l.drop k).take i), ((k + i + 1 : Nat) : Int))
theorem fnl_none {l : List UInt8} (h : (10 : UInt8) ∉ l) : fnl l = none := by
  unfold fnl
  rw [List.findIdx?_eq_none_iff]
  intro x hx
  rw [beq_eq_false_iff_ne]
  rintro rfl
  exact h hx
theorem fnl_some {a r : List UInt8} (h : (10 : UInt8) ∉ a) : fnl (a ++ 10 :: r) = some a.length := by
  unfold fnl
  rw [List.findIdx?_append]
  have h1 : List.findIdx? (fun x => x == 10) a = none := fnl_none h
  rw [h1, List.findIdx?_cons]
  simp
theorem lnA_end {l : List UInt8} {k : Nat} (h : (10 : UInt8) ∉ l.drop k) : lnA l k = ([], -1) := by
  unfold lnA
  rw [fnl_none h]
theorem lnA_at {l : List UInt8} {k i : Nat} (hk : k ≤ i) (hi : i < l.length) (h : (10 : UInt8) ∉ (l.drop k).take (i - k)) (h10 : l[i] = 10) : lnA l k = (tcr ((l.drop k).take (i - k)), ((i + 1 : Nat) : Int)) := by
  have e : l.drop k = (l.drop k).take (i - k) ++ 10 :: (l.drop (i + 1)) := by
    conv => lhs; rw [← List.take_append_drop (i - k) (l.drop k), List.drop_drop, show k + (i - k) = i by omega, List.drop_eq_getElem_cons hi, h10]
  have hl : ((l.drop k).take (i - k)).length = i - k := by rw [List.length_take, List.length_drop]; omega
  unfold lnA
  have hf : fnl (l.drop k) = some (i - k) := by
    rw [e, fnl_some h, hl]
  rw [hf]
  dsimp only
  rw [show k + (i - k) + 1 = i + 1 by omega]
theorem extr_mid (s : ByteArray) (a b : Nat) : (s.extract a b).data.toList = (s.data.toList.drop a).take (b - a) := by
  rw [ByteArray.data_extract, Array.toList_extract, List.extract_eq_take_drop]
theorem vs_extr (s : ByteArray) (a b : Nat) : (.string (s.extract a b) : Value) = vs ((s.data.toList.drop a).take (b - a)) := by
  rw [← extr_mid]
theorem take_last {l : List UInt8} {k i : Nat} (hk : k < i) (hi : i ≤ l.length) : ((l.drop k).take (i - k)).getLast? = some (l[i - 1]'(by omega)) := by
  have hl : ((l.drop k).take (i - k)).length = i - k := by rw [List.length_take, List.length_drop]; omega
  rw [List.getLast?_eq_getElem?, hl, List.getElem?_take, if_pos (by omega), List.getElem?_drop, show k + (i - k - 1) = i - 1 by omega, List.getElem?_eq_getElem (by omega)]
theorem tcr_mid {l : List UInt8} {k i : Nat} (hk : k < i) (hi : i ≤ l.length) (h : l[i - 1]'(by omega) = 13) : tcr ((l.drop k).take (i - k)) = (l.drop k).take (i - 1 - k) := by
  have hl : ((l.drop k).take (i - k)).length = i - k := by rw [List.length_take, List.length_drop]; omega
  unfold tcr
  rw [take_last hk hi, h, if_pos rfl, List.dropLast_eq_take, hl, List.take_take, Nat.min_eq_left (by omega), show i - k - 1 = i - 1 - k by omega]
theorem tcr_not {l : List UInt8} {k i : Nat} (hk : k < i) (hi : i ≤ l.length) (h : l[i - 1]'(by omega) ≠ 13) : tcr ((l.drop k).take (i - k)) = (l.drop k).take (i - k) := by
  unfold tcr
  rw [take_last hk hi, if_neg (by simpa using h)]
set_option maxRecDepth 100000 in
set_option maxHeartbeats 2000000 in
theorem RlineAt_walk (s : ByteArray) (k : Nat) (hs : s.size ≤ 1099511627776) (hk : k ≤ 1099511627776) (w : World) : Calls Tryz.prog 83 #[.string s, .int .i64 (k : Int)] w fun e w' => e = .returned (.tuple #[vs (lnA s.data.toList k).1, .int .i64 (lnA s.data.toList k).2]) ∧ Up w w' := by
  obtain ⟨L, hL⟩ : ∃ L, s.data.toList = L := ⟨_, rfl⟩
  have HLL := Hid.of hL
  have HS := Hid.of (show s.size = L.length by rw [← hL]; exact Go.Lib.size_eq s)
  rw [hL]
  clear hL
  obtain ⟨rv, hrv⟩ : ∃ rv, lnA L k = rv := ⟨_, rfl⟩
  have HR := Hid.of hrv
  rw [hrv]
  clear hrv
  go_enter Tryz.func83, Tryz.ntmps83
  go_wp2
  go_loopw [6] (fun v6 wr => ∃ i : Nat, v6 = .int .i64 (i : Int) ∧ k ≤ i ∧ i ≤ 1099511627776 ∧ Hid (Up w wr ∧ (10 : UInt8) ∉ (L.drop k).take (i - k))) (fun v6 _ => s.size - (intOf v6).toNat)
  case atStart => exact ⟨k, rfl, Nat.le_refl _, hk, Hid.of ⟨Up.refl _, by rw [Nat.sub_self]; simp⟩⟩
  case round =>
    obtain ⟨i, rfl, hki, hik, hU⟩ := hrel
    have HU := Hid.of hU.out
    clear hU
    by_cases hil : i < s.size
    · have hilz : (i : Int) < (s.size : Int) := by omega
      have hg := sget' s i hil
      have hiL : i < L.length := by rw [← HS.out]; exact hil
      have hgx : s.data.toList[i]'(by rw [HLL.out]; exact hiL) = L[i] := by
        have h1 := HLL.out
        subst h1
        rfl
      rw [hgx] at hg
      clear hgx
      have HT := Hid.of (show (L.drop k).take (i + 1 - k) = (L.drop k).take (i - k) ++ [L[i]] by
        rw [show i + 1 - k = (i - k) + 1 by omega, List.take_succ_eq_append_getElem (by rw [List.length_drop]; omega), List.getElem_drop]
        simp only [show k + (i - k) = i by omega])
      by_cases hx : L[i] = 10
      · have HA := Hid.of (lnA_at hki hiL HU.out.2 hx)
        rw [hx] at hg
        clear HT hx
        by_cases hlt : k < i
        · have hltz : (k : Int) < (i : Int) := by omega
          have hi1 : i - 1 < s.size := by omega
          have hg1 := sget' s (i - 1) hi1
          have hiL1 : i - 1 < L.length := by omega
          have hgx : s.data.toList[i - 1]'(by rw [HLL.out]; exact hiL1) = L[i - 1] := by
            have h1 := HLL.out
            subst h1
            rfl
          rw [hgx] at hg1
          clear hgx
          have hsub : ((i : Int) - 1) = ((i - 1 : Nat) : Int) := by omega
          by_cases h13 : L[i - 1] = 13
          · have HE := Hid.of (show rv = ((L.drop k).take (i - 1 - k), ((i + 1 : Nat) : Int)) by rw [← HR.out, HA.out, tcr_mid hlt (by omega) h13])
            rw [h13] at hg1
            have b1 : (k : Int) ≤ (i : Int) - 1 := by omega
            have b2 : (i : Int) - 1 ≤ (s.size : Int) := by omega
            have b3 : (0 : Int) ≤ (i : Int) - 1 := by omega
            go_wp2
            go_ret2
            rw [HE.out]
            refine ⟨?_, HU.out.1⟩
            rw [vs_extr, HLL.out]
            exact congrArg (fun z => Ending.returned (Value.tuple #[_, Value.int IntKind.i64 z])) (by omega)
          · have HE := Hid.of (show rv = ((L.drop k).take (i - k), ((i + 1 : Nat) : Int)) by rw [← HR.out, HA.out, tcr_not hlt (by omega) h13])
            have h13z : ((L[i - 1].toNat : Int) == 13) = false := by
              rw [beq_eq_false_iff_ne]
              intro e
              exact h13 (UInt8.toNat_inj.1 (by have : (13 : UInt8).toNat = 13 := rfl; omega))
            generalize L[i - 1] = x1 at *
            clear h13
            go_wp2
            go_ret2
            rw [HE.out]
            refine ⟨?_, HU.out.1⟩
            rw [vs_extr, HLL.out]
            exact congrArg (fun z => Ending.returned (Value.tuple #[_, Value.int IntKind.i64 z])) (by omega)
        · have hltz : ¬ (k : Int) < (i : Int) := by omega
          obtain rfl : k = i := by omega
          have HE := Hid.of (show rv = ([], ((k + 1 : Nat) : Int)) by
            rw [← HR.out, HA.out, Nat.sub_self]
            rfl)
          go_wp2
          go_ret2
          rw [HE.out]
          refine ⟨?_, HU.out.1⟩
          exact congrArg (fun z => Ending.returned (Value.tuple #[_, Value.int IntKind.i64 z])) (by omega)
      · have hxz : ((L[i].toNat : Int) == 10) = false := by
          rw [beq_eq_false_iff_ne]
          intro e
          exact hx (UInt8.toNat_inj.1 (by have : (10 : UInt8).toNat = 10 := rfl; omega))
        have HN := Hid.of (show (10 : UInt8) ∉ (L.drop k).take (i + 1 - k) by
          rw [HT.out]
          intro hm
          rcases List.mem_append.1 hm with h | h
          · exact HU.out.2 h
          · exact hx (List.mem_singleton.1 h).symm)
        clear HT
        generalize L[i] = x at *
        clear hx
        go_wp2
        go_roundw
        all_goals first
          | exact ⟨i + 1, by go_num, by omega, by omega, Hid.of ⟨HU.out.1, HN.out⟩⟩
          | (simp [intOf]; omega)
    · have hilz : ¬ (i : Int) < (s.size : Int) := by omega
      have HE := Hid.of (show rv = ([], -1) by
        rw [← HR.out]
        refine lnA_end ?_
        have h1 := HU.out.2
        rw [List.take_of_length_le (by rw [List.length_drop, ← HS.out]; omega)] at h1
        exact h1)
      go_wp2
      go_ret2
      rw [HE.out]
      exact ⟨rfl, HU.out.1⟩
end Go.Proofs.YtabpgpbcnadgcaaGreatDoor
