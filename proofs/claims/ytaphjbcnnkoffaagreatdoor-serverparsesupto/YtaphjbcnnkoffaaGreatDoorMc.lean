import Derived.Test.YtaphjbcnnkoffaaGreatDoorMb
import Derived.Lib.Strings
import Derived.Lib.IndexLaws
import Derived.Lib.IndexBytes
import Derived.Lib.Split
namespace Go.Proofs.YtaphjbcnnkoffaaGreatDoor
open Go.RowKit Go.Shelf TextNum ModNum
theorem dgs_snoc (a : List UInt8) (c : UInt8) : dgs (a ++ [c]) = if kd c.toNat = 4 then dgs a ++ [c] else [] := by
  unfold dgs
  rw [List.reverse_append]
  by_cases h : kd c.toNat = 4
  · simp [h]
  · simp [h]
theorem dgs_len (a : List UInt8) : (dgs a).length ≤ a.length := by
  unfold dgs
  rw [List.length_reverse]
  have := (List.takeWhile_sublist (p := fun c : UInt8 => decide (kd c.toNat = 4)) (l := a.reverse)).length_le
  rwa [List.length_reverse] at this
theorem dgs_eq (l : List UInt8) : ∃ a, l = a ++ dgs l := by
  unfold dgs
  have := List.takeWhile_append_dropWhile (p := fun c : UInt8 => decide (kd c.toNat = 4)) (l := l.reverse)
  refine ⟨(l.reverse.dropWhile fun c : UInt8 => decide (kd c.toNat = 4)).reverse, ?_⟩
  rw [← List.reverse_append, this, List.reverse_reverse]
theorem dgs_drop (l : List UInt8) : l.drop (l.length - (dgs l).length) = dgs l := by
  obtain ⟨a, h⟩ := dgs_eq l
  have hl : l.length = a.length + (dgs l).length := by
    have := congrArg List.length h
    rwa [List.length_append] at this
  rw [show l.length - (dgs l).length = a.length by omega]
  conv => lhs; rw [h]
  rw [List.drop_left]
set_option maxRecDepth 100000 in
set_option maxHeartbeats 1000000 in
theorem digitsBehind_walk (s m : ByteArray) (ha : ∀ c ∈ s.data.toList, c.toNat < 128) (hs : s.size ≤ 1048576) (w : World) (hG : GM w) : Calls Tryz.prog 133 #[.string s, .string m] w fun e w' => e = .returned (.tuple #[.string ⟨(dgs s.data.toList).toArray⟩, .bool (dbh s.data.toList m.data.toList)]) ∧ Up w w' := by
  have HG := Hid.of hG
  have HA := Hid.of ha
  clear hG ha
  go_enter Tryz.func133, Tryz.ntmps133
  go_wp2_with fail
  go_loopw [6, 7, 8] (fun v6 _ _ wr => ∃ pos : Nat, v6 = .int .i64 ((pos - (dgs (s.data.toList.take pos)).length : Nat) : Int) ∧ Hid (wr.heap[w.heap.size]? = some (.stringIter s pos) ∧ Up w wr ∧ pos ≤ s.size)) (fun _ _ _ wr => s.size - wr.iterPos w.heap.size)
  case atStart => exact ⟨0, rfl, World.iter_heap w s 0, (Up.refl w).alloc _, Nat.zero_le _⟩
  case round =>
    obtain ⟨pos, rfl, hI⟩ := hrel
    obtain ⟨wb, hwb⟩ : ∃ wb, wb = wr := ⟨_, rfl⟩
    subst hwb
    by_cases hlt : pos < s.size
    · have hnext : ∀ ty, (Instr.next (.pointer (some ⟨w.heap.size, 0, none⟩)) true ty).run Tryz.prog wb = _ := fun ty => Go.Lib.run_next_ascii_at wb w.heap.size s pos ty hI.out.1 hlt (HA.out _ (List.mem_of_getElem? (gx hlt)))
      have HK := fun w' => fun (u : Up w w') => Hid.of (kindOf_walk s[pos].toNat w' (HG.out.up u))
      have h1 := Go.Lib.iterAt_heap wb w.heap.size s pos (pos + 1) hI.out.1
      have h2 := up_at hI.out.2.1 s (pos + 1) (b := w.heap.size) (Nat.le_refl _)
      have HN := Hid.of (And.intro h1 h2)
      have HT := Hid.of (And.intro (take_succ hlt) trivial)
      have HL := Hid.of (dgs_len (s.data.toList.take pos))
      have HD := Hid.of (dgs_snoc (s.data.toList.take pos) s[pos])
      clear h1 h2
      by_cases hz : kd s[pos].toNat = 4
      · rw [hz] at HK
        generalize hq : pos - (dgs (s.data.toList.take pos)).length = q at *
        have HQ := Hid.of (And.intro (show pos + 1 - (dgs (s.data.toList.take (pos + 1))).length = q by rw [HT.out.1, HD.out, if_pos hz, List.length_append, ← hq]; simp) trivial)
        clear hq hz HT HD HL
        go_wp2_with fail
        refine ((HK _ HN.out.2).out).mono ?_
        rintro e w1 ⟨rfl, u1⟩
        have H1 := Hid.of (HN.out.2.trans u1)
        have Hu1 := Hid.of u1
        clear u1
        dsimp only
        have H2 := Hid.of (iter_up HN.out.1 Hu1.out)
        go_wp2
        go_roundw
        case rel => exact ⟨pos + 1, by rw [HQ.out.1], H2.out, H1.out, hlt⟩
        case measure => rw [iterPos_of H2.out, iterPos_of hI.out.1]; omega
      · have HQ := Hid.of (And.intro (show pos + 1 - (dgs (s.data.toList.take (pos + 1))).length = pos + 1 by rw [HT.out.1, HD.out, if_neg hz]; rfl) trivial)
        have hz2 : (((kd s[pos].toNat : Nat) : Int) != 4) = true := by
          rw [bne_iff_ne]; omega
        generalize kd s[pos].toNat = kk at *
        clear hz HT HD HL
        go_wp2_with fail
        refine ((HK _ HN.out.2).out).mono ?_
        rintro e w1 ⟨rfl, u1⟩
        have H1 := Hid.of (HN.out.2.trans u1)
        have Hu1 := Hid.of u1
        clear u1
        dsimp only
        have H2 := Hid.of (iter_up HN.out.1 Hu1.out)
        go_wp2
        go_roundw
        case rel => exact ⟨pos + 1, by rw [HQ.out.1]; go_num, H2.out, H1.out, hlt⟩
        case measure => rw [iterPos_of H2.out, iterPos_of hI.out.1]; omega
    · have hnext : ∀ ty, (Instr.next (.pointer (some ⟨w.heap.size, 0, none⟩)) true ty).run Tryz.prog wb = _ := fun ty => Go.Lib.run_next_end_at wb w.heap.size s pos ty hI.out.1 hlt
      have hT : s.data.toList.take pos = s.data.toList := List.take_of_length_le (by rw [← Go.Lib.size_eq]; omega)
      have hpe : pos = s.size := by have := hI.out.2.2; omega
      rw [hT]
      have HL := Hid.of (dgs_len s.data.toList)
      have hq : pos - (dgs s.data.toList).length = s.data.toList.length - (dgs s.data.toList).length := by rw [hpe, len_of]
      rw [hq]
      have HDr := Hid.of (dgs_drop s.data.toList)
      have HU := Hid.of hI.out.2.1
      have hle : s.data.toList.length - (dgs s.data.toList).length ≤ s.size := by rw [len_of]; omega
      have HS := fun (a : ByteArray) (ha : a.size ≤ 1048576) => Hid.of (Any.strings_HasSuffix Tryz.lays100 a m wb.drew (by omega))
      have HB : Hid (dbh s.data.toList m.data.toList = (!(dgs s.data.toList).isEmpty && sfx m.data.toList (s.data.toList.take (s.data.toList.length - (dgs s.data.toList).length)))) := rfl
      clear hT hpe hq
      generalize s.data.toList.length - (dgs s.data.toList).length = st at *
      have c1 : (0 : Int) ≤ (st : Int) := by omega
      have c2 : (st : Int) ≤ (s.size : Int) := by omega
      have mixed := Tryz.lays145.mixed
      have hx : s.extract st s.size = ⟨(dgs s.data.toList).toArray⟩ := by
        apply ByteArray.ext
        apply Array.ext'
        rw [Go.Lib.extract_to_end, HDr.out]
      have hsz : (s.extract 0 st).size ≤ 1048576 := by
        rw [Go.Lib.size_eq, Go.Lib.extract_from_zero, List.length_take, len_of]; omega
      have hE : (s.extract st s.size).toList.isEmpty = (dgs s.data.toList).isEmpty := by rw [Go.Lib.toList_data, Go.Lib.extract_to_end, HDr.out]
      have HX := Hid.of (And.intro hx (Go.Lib.extract_from_zero s st))
      clear hx HDr
      cases hb : (dgs s.data.toList).isEmpty with
      | true =>
        rw [hb] at hE HB
        clear hb
        go_wp2
        go_region_o
        go_wp2
        go_ret2
        rw [HB.out, HX.out.1]
        exact ⟨rfl, HU.out.drew⟩
      | false =>
        rw [hb] at hE HB
        clear hb
        go_wp2
        go_region_o
        go_wp2_with fail
        refine ((HS _ hsz).out).mono ?_
        rintro e w9 ⟨rfl, h9⟩
        obtain rfl := h9.symm
        clear h9
        dsimp only
        go_wp2
        go_ret2
        rw [HB.out, HX.out.1, HX.out.2]
        exact ⟨rfl, HU.out.drew⟩
end Go.Proofs.YtaphjbcnnkoffaaGreatDoor
