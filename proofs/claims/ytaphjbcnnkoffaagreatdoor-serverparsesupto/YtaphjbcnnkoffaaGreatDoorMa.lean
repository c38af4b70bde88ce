import Derived.Test.YtaphjbcnnkoffaaGreatDoorMg
import Derived.WalkSmall
namespace Go.Proofs.YtaphjbcnnkoffaaGreatDoor
open Go.RowKit TextNum ModNum
theorem gx {s : ByteArray} {i : Nat} (h : i < s.size) : s.data.toList[i]? = some s[i] := by
  rw [sget' s i h, List.getElem?_eq_getElem]
theorem take_succ {s : ByteArray} {i : Nat} (h : i < s.size) : s.data.toList.take (i + 1) = s.data.toList.take i ++ [s[i]] := by
  rw [List.take_add_one, gx h]; rfl
theorem al_not {k i : Nat} {s : ByteArray} (h : i < s.size) (hk : kd s[i].toNat &&& k = 0) : al k s.data.toList = false := by
  rw [Bool.eq_false_iff]
  intro h2
  exact al_mem h2 (List.mem_of_getElem? (gx h)) hk
theorem iter_up {w w' : World} {b : Nat} {o : Obj} (h : w.heap[b]? = some o) (k : Up w w') : w'.heap[b]? = some o := by
  rw [k.block b (Array.getElem?_eq_some_iff.1 h).1]; exact h
theorem up_at {w wr : World} (h : Up w wr) (s : ByteArray) (p : Nat) {b : Nat} (hb : w.heap.size ≤ b) : Up w (wr.iterAt b s p) := Go.Lib.below_iterAt h hb s p
theorem bits_and_u8_nat (a b : Nat) (ha : a < 256) (hb : b < 256) : bits .and .u8 (a : Int) (b : Int) = ((a &&& b : Nat) : Int) := by
  have hx : a &&& b < 2 ^ 8 := Nat.and_lt_two_pow _ (by omega)
  have h1 : (BitVec.ofInt 8 (a : Int)).toNat = a := by
    rw [BitVec.ofInt_natCast, BitVec.toNat_ofNat]; exact Nat.mod_eq_of_lt (by omega)
  have h2 : (BitVec.ofInt 8 (b : Int)).toNat = b := by
    rw [BitVec.ofInt_natCast, BitVec.toNat_ofNat]; exact Nat.mod_eq_of_lt (by omega)
  show IntKind.u8.wrap ((BitVec.ofInt 8 (a : Int) &&& BitVec.ofInt 8 (b : Int)).toNat : Int) = _
  rw [BitVec.toNat_and, h1, h2]
  simp only [IntKind.wrap, IntKind.signed, IntKind.bits]
  simp
  omega
set_option maxRecDepth 100000 in
set_option maxHeartbeats 1000000 in
theorem allOf_walk (s : ByteArray) (k : Nat) (hk : k < 256) (w : World) (hG : GM w) : Calls Tryz.prog 110 #[.string s, .int .u8 (k : Int)] w fun e w' => e = .returned (.bool (al k s.data.toList)) ∧ Up w w' := by
  have HG := Hid.of hG
  clear hG
  go_enter Tryz.func110, Tryz.ntmps110
  go_wp2_with fail
  go_loopw [6] (fun _ wr => ∃ pos : Nat, Hid (wr.heap[w.heap.size]? = some (.stringIter s pos) ∧ Up w wr ∧ pos ≤ s.size ∧ al k (s.data.toList.take pos) = true)) (fun _ wr => s.size - wr.iterPos w.heap.size)
  case atStart => exact ⟨0, World.iter_heap w s 0, (Up.refl w).alloc _, Nat.zero_le _, rfl⟩
  case round =>
    obtain ⟨pos, hI⟩ := hrel
    obtain ⟨wb, hwb⟩ : ∃ wb, wb = wr := ⟨_, rfl⟩
    subst hwb
    by_cases hlt : pos < s.size
    · have hnext : ∀ ty, (Instr.next (.pointer (some ⟨w.heap.size, 0, none⟩)) true ty).run Tryz.prog wb = _ := fun ty => Go.Lib.run_next_any_at wb w.heap.size s pos ty hI.out.1 hlt
      by_cases h8 : s[pos].toNat < 128
      · rw [decode_ascii s pos hlt h8] at hnext
        dsimp only at hnext
        have HK := fun w' => fun (u : Up w w') => Hid.of (kindOf_walk s[pos].toNat w' (HG.out.up u))
        have h1 := Go.Lib.iterAt_heap wb w.heap.size s pos (pos + 1) hI.out.1
        have h2 := up_at hI.out.2.1 s (pos + 1) (b := w.heap.size) (Nat.le_refl _)
        have HN := Hid.of (And.intro h1 h2)
        have hb := bits_and_u8_nat (kd s[pos].toNat) k (by have := kd_lt s[pos].toNat; omega) hk
        clear h1 h2
        by_cases hz : kd s[pos].toNat &&& k = 0
        · have HF := Hid.of (al_not hlt hz)
          rw [hz] at hb
          clear hz h8
          go_wp2_with fail
          refine (HK _ HN.out.2).out.mono ?_
          rintro e w1 ⟨rfl, u1⟩
          have HU := Hid.of (HN.out.2.trans u1)
          clear u1
          dsimp only
          go_wp2
          go_ret
          rw [HF.out]
          exact ⟨rfl, HU.out⟩
        · have HT := Hid.of (show al k (s.data.toList.take (pos + 1)) = true by rw [take_succ hlt, al_append, hI.out.2.2.2]; simp [al, hz])
          have hz2 : (((kd s[pos].toNat &&& k : Nat) : Int) == 0) = false := by
            rw [beq_eq_false_iff_ne]; omega
          generalize ((kd s[pos].toNat &&& k : Nat) : Int) = zz at *
          clear hz h8
          go_wp2_with fail
          refine (HK _ HN.out.2).out.mono ?_
          rintro e w1 ⟨rfl, u1⟩
          have HU := Hid.of (And.intro (iter_up HN.out.1 u1) (HN.out.2.trans u1))
          clear u1
          dsimp only
          go_wp2
          go_roundw
          case rel => exact ⟨pos + 1, HU.out.1, HU.out.2, hlt, HT.out⟩
          case measure => rw [iterPos_of HU.out.1, iterPos_of hI.out.1]; omega
      · have hd := decode_high s pos hlt (by omega)
        have HF := Hid.of (al_not (k := k) hlt (by rw [kd_high (by omega)]; simp))
        have HK := fun w' => fun (u : Up w w') => Hid.of (kindOf_walk (Utf8.decode s pos).1 w' (HG.out.up u))
        rw [kd_high hd.1] at HK
        have HN := Hid.of (up_at hI.out.2.1 s (pos + (Utf8.decode s pos).2) (b := w.heap.size) (Nat.le_refl _))
        have hb : bits .and .u8 (0 : Int) (k : Int) = 0 := by
          have := bits_and_u8_nat 0 k (by omega) hk
          rw [Nat.zero_and] at this
          exact this
        generalize (Utf8.decode s pos).1 = dr at *
        generalize (Utf8.decode s pos).2 = dw at *
        clear hd h8
        go_wp2_with fail
        refine (HK _ HN.out).out.mono ?_
        rintro e w1 ⟨rfl, u1⟩
        have HU := Hid.of (HN.out.trans u1)
        clear u1
        dsimp only
        go_wp2
        go_ret
        rw [HF.out]
        exact ⟨rfl, HU.out⟩
    · have hnext : ∀ ty, (Instr.next (.pointer (some ⟨w.heap.size, 0, none⟩)) true ty).run Tryz.prog wb = _ := fun ty => Go.Lib.run_next_end_at wb w.heap.size s pos ty hI.out.1 hlt
      have HT := Hid.of (show al k s.data.toList = true by
        have := hI.out.2.2.2
        rwa [List.take_of_length_le (by rw [← Go.Lib.size_eq]; omega)] at this)
      go_wp2
      go_ret
      rw [HT.out]
      exact ⟨rfl, hI.out.2.1⟩
end Go.Proofs.YtaphjbcnnkoffaaGreatDoor
