import Derived.Test.YtnciglpdjpckiaaGreatDoorK8
import Derived.Sort.Grow
import Derived.Test.YtnciglpdjpckiaaGreatDoorKB
import Derived.Sort.Statements
namespace Go.Proofs.YtnciglpdjpckiaaGreatDoor
open Go.RowKit Go.Shelf TextNum ModNum
/-- what was there is as it was, and answers are only taken -/
def Ud (w w' : World) : Prop := Up w w' ∧ w.drawn ≤ w'.drawn
theorem Ud.refl (w : World) : Ud w w := ⟨Up.refl _, Nat.le_refl _⟩
theorem Ud.trans {a b c : World} (h : Ud a b) (k : Ud b c) : Ud a c := ⟨h.1.trans k.1, Nat.le_trans h.2 k.2⟩
theorem Ud.drew {a w : World} (h : Ud a w) : Ud a w.drew := ⟨h.1.drew, Nat.le_trans h.2 (Nat.le_succ _)⟩
theorem Ud.drewN {a w : World} (h : Ud a w) (n : Nat) : Ud a (w.drewN n) := ⟨h.1.drewN n, Nat.le_trans h.2 (Nat.le_add_right _ _)⟩
theorem Ud.alloc {a w : World} (h : Ud a w) (o : Obj) : Ud a (w.alloc o) := ⟨h.1.alloc o, h.2⟩
theorem Ud.cell {a w : World} (h : Ud a w) {p : Addr} {v : Value} (hp : a.cell? p = some v) : w.cell? p = some v := h.1.cell hp
theorem ud_at {w wr : World} (h : Ud w wr) (s : ByteArray) (p : Nat) {b : Nat} (hb : w.heap.size ≤ b) : Ud w (wr.iterAt b s p) := ⟨up_at h.1 s p hb, h.2⟩
/-- then the world is the old one, further on, with blocks behind it -/
theorem Ud.grow {w w' : World} (h : Ud w w') : ∃ q os, w' = Go.Sort.grow (w.drewN q) os := by
  refine ⟨w'.drawn - w.drawn, w'.heap.extract w.heap.size w'.heap.size, ?_⟩
  obtain ⟨⟨h1, h2, h3, h4, h5⟩, h6⟩ := h
  obtain ⟨heap, tape, drawn, os, output⟩ := w'
  obtain ⟨heap0, tape0, drawn0, os0, output0⟩ := w
  simp only at h1 h2 h3 h4 h5 h6
  subst h1 h2 h3
  have e1 : drawn0 + (drawn - drawn0) = drawn := by omega
  have e2 : heap0 ++ heap.extract heap0.size heap.size = heap := by
    apply Array.ext_getElem?
    intro i
    by_cases hi : i < heap0.size
    · rw [Array.getElem?_append_left hi, h5 i hi]
    · rw [Array.getElem?_append_right (by omega), Array.getElem?_extract]
      by_cases hj : i < heap.size
      · rw [if_pos (by omega)]; congr 1; omega
      · rw [if_neg (by omega), Array.getElem?_eq_none (by omega)]
  simp only [Go.Sort.grow, World.drewN, e1, e2]
set_option maxRecDepth 100000 in
set_option maxHeartbeats 2000000 in
theorem kindOf_walkU (n : Nat) (w : World) (hG : GM w) : Calls Tryz.prog 141 #[.int .i32 (n : Int)] w fun e w' => e = .returned (.int .u8 (kd n : Int)) ∧ Ud w w' := by
  have HG := Hid.of hG
  clear hG
  go_enter Tryz.func141, Tryz.ntmps141
  go_wp2_with (with_reducible show wpList _ _ _ ({ dst := _, op := Op.load 170 _, type := _, pos := _, after := _, guard := _ } :: _) _ _; refine Shut.out ?_)
  show wpList _ _ _ _ _ _
  refine wpList_load_mid rfl 170 _ rfl 3 0 rfl chC _ HG.out.ch Tryz.underlying170 rfl (by kernel_rfl) ?_
  simp only [Act.put, List.setIfInBounds_toArray, List.set_cons_zero, List.set_cons_succ]
  have x0 := ixc0
  have x1 := ixc1
  have x2 := ixc2
  have x3 := ixc3
  have x4 := ixc4
  have x5 := ixc5
  have x6 := ixc6
  have x7 := ixc7
  generalize chC.toArray = tab at *
  go_wp2
  go_loopw [4, 6] (fun _ v6 wr => ∃ i : Nat, v6 = .int .i64 (i : Int) ∧ i ≤ 8 ∧ Hid (kdn i n ∧ Ud w wr)) (fun _ v6 _ => 8 - (intOf v6).toNat)
  case atStart => exact ⟨0, rfl, by omega, by simp [kdn], Ud.refl _⟩
  case round =>
    obtain ⟨i, rfl, hi, hI⟩ := hrel
    by_cases hlt : i < 8
    · have hltz : (i : Int) < 8 := by omega
      obtain rfl | rfl | rfl | rfl | rfl | rfl | rfl | rfl : i = 0 ∨ i = 1 ∨ i = 2 ∨ i = 3 ∨ i = 4 ∨ i = 5 ∨ i = 6 ∨ i = 7 := by omega
      · by_cases h1 : 97 ≤ n ∧ n ≤ 122
        · have h2 : (97 : Int) ≤ (n : Int) := by omega
          have h3 : (n : Int) ≤ 122 := by omega
          have HK := Hid.of (And.intro (show kd n = 1 from by have := hI.out.1; unfold kdn at this; unfold kd; (repeat' split) <;> omega) trivial)
          clear h1
          go_wp2
          go_ret
          rw [HK.out.1]
          exact ⟨rfl, by repeat (first | exact hI.out.2 | apply Ud.alloc)⟩
        · have HK := Hid.of (show kdn 1 n by have := hI.out.1; unfold kdn at this ⊢; omega)
          by_cases h2 : (97 : Int) ≤ (n : Int)
          · have h3 : ¬ (n : Int) ≤ 122 := by omega
            clear h1
            go_wp2
            go_roundw
            case rel => exact ⟨1, by go_num, by omega, HK.out, by repeat (first | exact hI.out.2 | apply Ud.alloc)⟩
            case measure => simp [intOf]
          · clear h1
            go_wp2
            go_roundw
            case rel => exact ⟨1, by go_num, by omega, HK.out, by repeat (first | exact hI.out.2 | apply Ud.alloc)⟩
            case measure => simp [intOf]
      · by_cases h1 : 65 ≤ n ∧ n ≤ 90
        · have h2 : (65 : Int) ≤ (n : Int) := by omega
          have h3 : (n : Int) ≤ 90 := by omega
          have HK := Hid.of (And.intro (show kd n = 2 from by have := hI.out.1; unfold kdn at this; unfold kd; (repeat' split) <;> omega) trivial)
          clear h1
          go_wp2
          go_ret
          rw [HK.out.1]
          exact ⟨rfl, by repeat (first | exact hI.out.2 | apply Ud.alloc)⟩
        · have HK := Hid.of (show kdn 2 n by have := hI.out.1; unfold kdn at this ⊢; omega)
          by_cases h2 : (65 : Int) ≤ (n : Int)
          · have h3 : ¬ (n : Int) ≤ 90 := by omega
            clear h1
            go_wp2
            go_roundw
            case rel => exact ⟨2, by go_num, by omega, HK.out, by repeat (first | exact hI.out.2 | apply Ud.alloc)⟩
            case measure => simp [intOf]
          · clear h1
            go_wp2
            go_roundw
            case rel => exact ⟨2, by go_num, by omega, HK.out, by repeat (first | exact hI.out.2 | apply Ud.alloc)⟩
            case measure => simp [intOf]
      · by_cases h1 : 48 ≤ n ∧ n ≤ 57
        · have h2 : (48 : Int) ≤ (n : Int) := by omega
          have h3 : (n : Int) ≤ 57 := by omega
          have HK := Hid.of (And.intro (show kd n = 4 from by have := hI.out.1; unfold kdn at this; unfold kd; (repeat' split) <;> omega) trivial)
          clear h1
          go_wp2
          go_ret
          rw [HK.out.1]
          exact ⟨rfl, by repeat (first | exact hI.out.2 | apply Ud.alloc)⟩
        · have HK := Hid.of (show kdn 3 n by have := hI.out.1; unfold kdn at this ⊢; omega)
          by_cases h2 : (48 : Int) ≤ (n : Int)
          · have h3 : ¬ (n : Int) ≤ 57 := by omega
            clear h1
            go_wp2
            go_roundw
            case rel => exact ⟨3, by go_num, by omega, HK.out, by repeat (first | exact hI.out.2 | apply Ud.alloc)⟩
            case measure => simp [intOf]
          · clear h1
            go_wp2
            go_roundw
            case rel => exact ⟨3, by go_num, by omega, HK.out, by repeat (first | exact hI.out.2 | apply Ud.alloc)⟩
            case measure => simp [intOf]
      · by_cases h1 : 45 ≤ n ∧ n ≤ 45
        · have h2 : (45 : Int) ≤ (n : Int) := by omega
          have h3 : (n : Int) ≤ 45 := by omega
          have HK := Hid.of (And.intro (show kd n = 8 from by have := hI.out.1; unfold kdn at this; unfold kd; (repeat' split) <;> omega) trivial)
          clear h1
          go_wp2
          go_ret
          rw [HK.out.1]
          exact ⟨rfl, by repeat (first | exact hI.out.2 | apply Ud.alloc)⟩
        · have HK := Hid.of (show kdn 4 n by have := hI.out.1; unfold kdn at this ⊢; omega)
          by_cases h2 : (45 : Int) ≤ (n : Int)
          · have h3 : ¬ (n : Int) ≤ 45 := by omega
            clear h1
            go_wp2
            go_roundw
            case rel => exact ⟨4, by go_num, by omega, HK.out, by repeat (first | exact hI.out.2 | apply Ud.alloc)⟩
            case measure => simp [intOf]
          · clear h1
            go_wp2
            go_roundw
            case rel => exact ⟨4, by go_num, by omega, HK.out, by repeat (first | exact hI.out.2 | apply Ud.alloc)⟩
            case measure => simp [intOf]
      · by_cases h1 : 46 ≤ n ∧ n ≤ 46
        · have h2 : (46 : Int) ≤ (n : Int) := by omega
          have h3 : (n : Int) ≤ 46 := by omega
          have HK := Hid.of (And.intro (show kd n = 16 from by have := hI.out.1; unfold kdn at this; unfold kd; (repeat' split) <;> omega) trivial)
          clear h1
          go_wp2
          go_ret
          rw [HK.out.1]
          exact ⟨rfl, by repeat (first | exact hI.out.2 | apply Ud.alloc)⟩
        · have HK := Hid.of (show kdn 5 n by have := hI.out.1; unfold kdn at this ⊢; omega)
          by_cases h2 : (46 : Int) ≤ (n : Int)
          · have h3 : ¬ (n : Int) ≤ 46 := by omega
            clear h1
            go_wp2
            go_roundw
            case rel => exact ⟨5, by go_num, by omega, HK.out, by repeat (first | exact hI.out.2 | apply Ud.alloc)⟩
            case measure => simp [intOf]
          · clear h1
            go_wp2
            go_roundw
            case rel => exact ⟨5, by go_num, by omega, HK.out, by repeat (first | exact hI.out.2 | apply Ud.alloc)⟩
            case measure => simp [intOf]
      · by_cases h1 : 95 ≤ n ∧ n ≤ 95
        · have h2 : (95 : Int) ≤ (n : Int) := by omega
          have h3 : (n : Int) ≤ 95 := by omega
          have HK := Hid.of (And.intro (show kd n = 32 from by have := hI.out.1; unfold kdn at this; unfold kd; (repeat' split) <;> omega) trivial)
          clear h1
          go_wp2
          go_ret
          rw [HK.out.1]
          exact ⟨rfl, by repeat (first | exact hI.out.2 | apply Ud.alloc)⟩
        · have HK := Hid.of (show kdn 6 n by have := hI.out.1; unfold kdn at this ⊢; omega)
          by_cases h2 : (95 : Int) ≤ (n : Int)
          · have h3 : ¬ (n : Int) ≤ 95 := by omega
            clear h1
            go_wp2
            go_roundw
            case rel => exact ⟨6, by go_num, by omega, HK.out, by repeat (first | exact hI.out.2 | apply Ud.alloc)⟩
            case measure => simp [intOf]
          · clear h1
            go_wp2
            go_roundw
            case rel => exact ⟨6, by go_num, by omega, HK.out, by repeat (first | exact hI.out.2 | apply Ud.alloc)⟩
            case measure => simp [intOf]
      · by_cases h1 : 126 ≤ n ∧ n ≤ 126
        · have h2 : (126 : Int) ≤ (n : Int) := by omega
          have h3 : (n : Int) ≤ 126 := by omega
          have HK := Hid.of (And.intro (show kd n = 32 from by have := hI.out.1; unfold kdn at this; unfold kd; (repeat' split) <;> omega) trivial)
          clear h1
          go_wp2
          go_ret
          rw [HK.out.1]
          exact ⟨rfl, by repeat (first | exact hI.out.2 | apply Ud.alloc)⟩
        · have HK := Hid.of (show kdn 7 n by have := hI.out.1; unfold kdn at this ⊢; omega)
          by_cases h2 : (126 : Int) ≤ (n : Int)
          · have h3 : ¬ (n : Int) ≤ 126 := by omega
            clear h1
            go_wp2
            go_roundw
            case rel => exact ⟨7, by go_num, by omega, HK.out, by repeat (first | exact hI.out.2 | apply Ud.alloc)⟩
            case measure => simp [intOf]
          · clear h1
            go_wp2
            go_roundw
            case rel => exact ⟨7, by go_num, by omega, HK.out, by repeat (first | exact hI.out.2 | apply Ud.alloc)⟩
            case measure => simp [intOf]
      · by_cases h1 : 47 ≤ n ∧ n ≤ 47
        · have h2 : (47 : Int) ≤ (n : Int) := by omega
          have h3 : (n : Int) ≤ 47 := by omega
          have HK := Hid.of (And.intro (show kd n = 64 from by have := hI.out.1; unfold kdn at this; unfold kd; (repeat' split) <;> omega) trivial)
          clear h1
          go_wp2
          go_ret
          rw [HK.out.1]
          exact ⟨rfl, by repeat (first | exact hI.out.2 | apply Ud.alloc)⟩
        · have HK := Hid.of (show kdn 8 n by have := hI.out.1; unfold kdn at this ⊢; omega)
          by_cases h2 : (47 : Int) ≤ (n : Int)
          · have h3 : ¬ (n : Int) ≤ 47 := by omega
            clear h1
            go_wp2
            go_roundw
            case rel => exact ⟨8, by go_num, by omega, HK.out, by repeat (first | exact hI.out.2 | apply Ud.alloc)⟩
            case measure => simp [intOf]
          · clear h1
            go_wp2
            go_roundw
            case rel => exact ⟨8, by go_num, by omega, HK.out, by repeat (first | exact hI.out.2 | apply Ud.alloc)⟩
            case measure => simp [intOf]
    · have hltz : ¬ (i : Int) < 8 := by omega
      have HK := Hid.of (And.intro (show kd n = 0 from by have := hI.out.1; unfold kdn at this; unfold kd; (repeat' split) <;> omega) trivial)
      go_wp2
      go_ret
      rw [HK.out.1]
      exact ⟨rfl, hI.out.2⟩
set_option maxRecDepth 100000 in
set_option maxHeartbeats 1000000 in
theorem allOf_walkU (s : ByteArray) (k : Nat) (hk : k < 256) (w : World) (hG : GM w) : Calls Tryz.prog 107 #[.string s, .int .u8 (k : Int)] w fun e w' => e = .returned (.bool (al k s.data.toList)) ∧ Ud w w' := by
  have HG := Hid.of hG
  clear hG
  go_enter Tryz.func107, Tryz.ntmps107
  go_wp2_with fail
  go_loopw [6] (fun _ wr => ∃ pos : Nat, Hid (wr.heap[w.heap.size]? = some (.stringIter s pos) ∧ Ud w wr ∧ pos ≤ s.size ∧ al k (s.data.toList.take pos) = true)) (fun _ wr => s.size - wr.iterPos w.heap.size)
  case atStart => exact ⟨0, World.iter_heap w s 0, (Ud.refl w).alloc _, Nat.zero_le _, rfl⟩
  case round =>
    obtain ⟨pos, hI⟩ := hrel
    obtain ⟨wb, hwb⟩ : ∃ wb, wb = wr := ⟨_, rfl⟩
    subst hwb
    by_cases hlt : pos < s.size
    · have hnext : ∀ ty, (Instr.next (.pointer (some ⟨w.heap.size, 0, none⟩)) true ty).run Tryz.prog wb = _ := fun ty => Go.Lib.run_next_any_at wb w.heap.size s pos ty hI.out.1 hlt
      by_cases h8 : s[pos].toNat < 128
      · rw [decode_ascii s pos hlt h8] at hnext
        dsimp only at hnext
        have HK := fun w' => fun (u : Ud w w') => Hid.of (kindOf_walkU s[pos].toNat w' (HG.out.up (u).1))
        have h1 := Go.Lib.iterAt_heap wb w.heap.size s pos (pos + 1) hI.out.1
        have h2 := ud_at hI.out.2.1 s (pos + 1) (b := w.heap.size) (Nat.le_refl _)
        have HN := Hid.of (And.intro h1 h2)
        have hb := bits_and_u8_nat (kd s[pos].toNat) k (by have := kd_lt s[pos].toNat; omega) hk
        clear h1 h2
        by_cases hz : kd s[pos].toNat &&& k = 0
        · have HF := Hid.of (al_not hlt hz)
          rw [hz] at hb
          clear hz h8
          go_wp2_with fail
          refine (HK _ HN.out.2).out.mono ?_
          rintro e w1 ⟨rfl, u1⟩
          have HU := Hid.of (HN.out.2.trans u1)
          clear u1
          dsimp only
          go_wp2
          go_ret
          rw [HF.out]
          exact ⟨rfl, HU.out⟩
        · have HT := Hid.of (show al k (s.data.toList.take (pos + 1)) = true by rw [take_succ hlt, al_append, hI.out.2.2.2]; simp [al, hz])
          have hz2 : (((kd s[pos].toNat &&& k : Nat) : Int) == 0) = false := by
            rw [beq_eq_false_iff_ne]; omega
          generalize ((kd s[pos].toNat &&& k : Nat) : Int) = zz at *
          clear hz h8
          go_wp2_with fail
          refine (HK _ HN.out.2).out.mono ?_
          rintro e w1 ⟨rfl, u1⟩
          have HU := Hid.of (And.intro (iter_up HN.out.1 u1.1) (HN.out.2.trans u1))
          clear u1
          dsimp only
          go_wp2
          go_roundw
          case rel => exact ⟨pos + 1, HU.out.1, HU.out.2, hlt, HT.out⟩
          case measure => rw [iterPos_of HU.out.1, iterPos_of hI.out.1]; omega
      · have hd := decode_high s pos hlt (by omega)
        have HF := Hid.of (al_not (k := k) hlt (by rw [kd_high (by omega)]; simp))
        have HK := fun w' => fun (u : Ud w w') => Hid.of (kindOf_walkU (Utf8.decode s pos).1 w' (HG.out.up (u).1))
        rw [kd_high hd.1] at HK
        have HN := Hid.of (ud_at hI.out.2.1 s (pos + (Utf8.decode s pos).2) (b := w.heap.size) (Nat.le_refl _))
        have hb : bits .and .u8 (0 : Int) (k : Int) = 0 := by
          have := bits_and_u8_nat 0 k (by omega) hk
          rw [Nat.zero_and] at this
          exact this
        generalize (Utf8.decode s pos).1 = dr at *
        generalize (Utf8.decode s pos).2 = dw at *
        clear hd h8
        go_wp2_with fail
        refine (HK _ HN.out).out.mono ?_
        rintro e w1 ⟨rfl, u1⟩
        have HU := Hid.of (HN.out.trans u1)
        clear u1
        dsimp only
        go_wp2
        go_ret
        rw [HF.out]
        exact ⟨rfl, HU.out⟩
    · have hnext : ∀ ty, (Instr.next (.pointer (some ⟨w.heap.size, 0, none⟩)) true ty).run Tryz.prog wb = _ := fun ty => Go.Lib.run_next_end_at wb w.heap.size s pos ty hI.out.1 hlt
      have HT := Hid.of (show al k s.data.toList = true by
        have := hI.out.2.2.2
        rwa [List.take_of_length_le (by rw [← Go.Lib.size_eq]; omega)] at this)
      go_wp2
      go_ret
      rw [HT.out]
      exact ⟨rfl, hI.out.2.1⟩
set_option maxRecDepth 100000 in
set_option maxHeartbeats 1000000 in
theorem isNumber_walkU (s : ByteArray) (w : World) (hG : GM w) : Calls Tryz.prog 131 #[.string s] w fun e w' => e = .returned (.bool (isNum s.data.toList)) ∧ Ud w w' := by
  have HA := Hid.of (allOf_walkU s 4 (by decide) w hG)
  have HR : Hid (isNum s.data.toList = (al 4 s.data.toList && (s.size == 1 || (decide (1 < s.size) && s.data.toList.head? != some 48)))) := by unfold isNum; rw [len_of]; rfl
  clear hG
  cases ha : al 4 s.data.toList with
  | false =>
    rw [ha] at HA HR
    go_enter Tryz.func131, Tryz.ntmps131
    go_wp2_with fail
    refine HA.out.mono ?_
    rintro e w1 ⟨rfl, u1⟩
    have HU := Hid.of u1
    clear u1
    dsimp only
    go_wp2
    go_ret
    rw [HR.out]
    exact ⟨rfl, HU.out⟩
  | true =>
    rw [ha] at HA HR
    clear ha
    by_cases h1 : s.size = 1
    · have h1z : ((s.size : Int) == 1) = true := by rw [beq_iff_eq]; omega
      go_enter Tryz.func131, Tryz.ntmps131
      go_wp2_with fail
      refine HA.out.mono ?_
      rintro e w1 ⟨rfl, u1⟩
      have HU := Hid.of u1
      clear u1
      dsimp only
      go_wp2
      go_ret
      rw [HR.out, h1]
      exact ⟨rfl, HU.out⟩
    · have h1z : ((s.size : Int) == 1) = false := by rw [beq_eq_false_iff_ne]; omega
      have h1n : (s.size == 1) = false := by rw [beq_eq_false_iff_ne]; exact h1
      rw [h1n] at HR
      by_cases h2 : 1 < s.size
      · have h2z : (1 : Int) < (s.size : Int) := by omega
        have h0 : 0 < s.size := by omega
        rw [decide_eq_true h2, head_at h0] at HR
        have hb : (((s[0].toNat : Nat) : Int) != 48) = (some s[0] != some 48) := by
          rw [Bool.eq_iff_iff]
          simp only [bne_iff_ne, ne_eq, Option.some.injEq]
          rw [show (48 : Int) = (((48 : UInt8).toNat : Nat) : Int) from rfl, Int.natCast_inj, UInt8.toNat_inj]
        generalize hbb : (some s[0] != some (48 : UInt8)) = bb at *
        clear hbb h1 h1n
        go_enter Tryz.func131, Tryz.ntmps131
        go_wp2_with fail
        refine HA.out.mono ?_
        rintro e w1 ⟨rfl, u1⟩
        have HU := Hid.of u1
        clear u1
        dsimp only
        go_wp2
        go_ret
        rw [HR.out]
        exact ⟨by simp, HU.out⟩
      · have h2z : ¬ (1 : Int) < (s.size : Int) := by omega
        rw [decide_eq_false h2] at HR
        go_enter Tryz.func131, Tryz.ntmps131
        go_wp2_with fail
        refine HA.out.mono ?_
        rintro e w1 ⟨rfl, u1⟩
        have HU := Hid.of u1
        clear u1
        dsimp only
        go_wp2
        go_ret
        rw [HR.out]
        exact ⟨rfl, HU.out⟩
end Go.Proofs.YtnciglpdjpckiaaGreatDoor
namespace Go.Proofs.YtnciglpdjpckiaaGreatDoor
open Go.RowKit Go.Shelf TextNum ModNum
set_option maxRecDepth 100000 in
theorem compareNumbers_walkU (a b : ByteArray) (w : World) : Calls Tryz.prog 90 #[.string a, .string b] w fun e w' => e = .returned (.int .i64 (cmpU a.data.toList b.data.toList)) ∧ Ud w w' := by
  have H1 := fun w' => Hid.of (orderI_walk a.size b.size w')
  have H2 := fun w' => Hid.of (orderS_walk a b w')
  have HR : Hid (cmpU a.data.toList b.data.toList = if cmpN a.size b.size = 0 then cmpB a.data.toList b.data.toList else cmpN a.size b.size) := by unfold cmpU; rw [len_of, len_of]; rfl
  generalize cmpN a.size b.size = x at *
  generalize cmpB a.data.toList b.data.toList = y at *
  have H3 := Hid.of (Or_walk x y w.heap.size (w.alloc (.cells #[.int .i64 x, .int .i64 y] 3)) (by rw [World.cell?_alloc_at _ _ _ _ rfl]; rfl) (by rw [World.cell?_alloc_at _ _ _ _ rfl]; rfl))
  generalize (if x = 0 then y else x) = r at *
  go_enter Tryz.func90, Tryz.ntmps90
  go_wp2_with fail
  refine ((H1 _).out).mono ?_
  rintro e w9 ⟨rfl, h9⟩
  obtain rfl := h9.symm
  clear h9
  dsimp only
  go_wp2_with fail
  refine ((H2 _).out).mono ?_
  rintro e w9 ⟨rfl, h9⟩
  obtain rfl := h9.symm
  clear h9
  dsimp only
  go_wp2_with fail
  refine H3.out.mono ?_
  rintro e w9 ⟨rfl, h9⟩
  have HU : Hid (Ud w w9) := by rw [h9]; exact (Ud.refl w).alloc _
  clear h9
  dsimp only
  go_wp2
  go_ret
  rw [HR.out]
  exact ⟨rfl, HU.out⟩
set_option maxRecDepth 100000 in
theorem compareWords_walkU (a b : ByteArray) (w : World) (hG : GM w) : Calls Tryz.prog 93 #[.string a, .string b] w fun e w' => e = .returned (.int .i64 (cmpW a.data.toList b.data.toList)) ∧ Ud w w' := by
  have HA := Hid.of (isNumber_walkU a w hG)
  have HB := fun w' => fun (u : Ud w w') => Hid.of (isNumber_walkU b w' (hG.up (u).1))
  have HU := fun w' => Hid.of (compareNumbers_walkU a b w')
  have HS := fun w' => Hid.of (orderS_walk a b w')
  have HR : Hid (cmpW a.data.toList b.data.toList = if isNum a.data.toList then (if isNum b.data.toList then cmpU a.data.toList b.data.toList else -1) else if isNum b.data.toList then 1 else cmpB a.data.toList b.data.toList) := rfl
  clear hG
  generalize cmpU a.data.toList b.data.toList = x at *
  generalize cmpB a.data.toList b.data.toList = y at *
  generalize isNum a.data.toList = na at *
  generalize isNum b.data.toList = nb at *
  cases na with
  | true =>
    cases nb with
    | true =>
      go_enter Tryz.func93, Tryz.ntmps93
      go_wp2_with fail
      refine (HA.out).mono ?_
      rintro e w1 ⟨rfl, u1⟩
      have H1 := Hid.of (u1)
      have Hu1 := Hid.of u1
      clear u1
      dsimp only
      go_wp2_with fail
      refine ((HB _ H1.out).out).mono ?_
      rintro e w2 ⟨rfl, u2⟩
      have H2 := Hid.of (H1.out.trans u2)
      have Hu2 := Hid.of u2
      clear u2
      dsimp only
      go_wp2_with fail
      refine ((HU _).out).mono ?_
      rintro e w3 ⟨rfl, u3⟩
      have H3 := Hid.of (H2.out.trans u3)
      have Hu3 := Hid.of u3
      clear u3
      dsimp only
      go_wp2
      go_ret
      rw [HR.out]
      exact ⟨rfl, H3.out⟩
    | false =>
      go_enter Tryz.func93, Tryz.ntmps93
      go_wp2_with fail
      refine (HA.out).mono ?_
      rintro e w1 ⟨rfl, u1⟩
      have H1 := Hid.of (u1)
      have Hu1 := Hid.of u1
      clear u1
      dsimp only
      go_wp2_with fail
      refine ((HB _ H1.out).out).mono ?_
      rintro e w2 ⟨rfl, u2⟩
      have H2 := Hid.of (H1.out.trans u2)
      have Hu2 := Hid.of u2
      clear u2
      dsimp only
      go_wp2
      go_ret
      rw [HR.out]
      exact ⟨rfl, H2.out⟩
  | false =>
    cases nb with
    | true =>
      go_enter Tryz.func93, Tryz.ntmps93
      go_wp2_with fail
      refine (HA.out).mono ?_
      rintro e w1 ⟨rfl, u1⟩
      have H1 := Hid.of (u1)
      have Hu1 := Hid.of u1
      clear u1
      dsimp only
      go_wp2_with fail
      refine ((HB _ H1.out).out).mono ?_
      rintro e w2 ⟨rfl, u2⟩
      have H2 := Hid.of (H1.out.trans u2)
      have Hu2 := Hid.of u2
      clear u2
      dsimp only
      go_wp2
      go_ret
      rw [HR.out]
      exact ⟨rfl, H2.out⟩
    | false =>
      go_enter Tryz.func93, Tryz.ntmps93
      go_wp2_with fail
      refine (HA.out).mono ?_
      rintro e w1 ⟨rfl, u1⟩
      have H1 := Hid.of (u1)
      have Hu1 := Hid.of u1
      clear u1
      dsimp only
      go_wp2_with fail
      refine ((HB _ H1.out).out).mono ?_
      rintro e w2 ⟨rfl, u2⟩
      have H2 := Hid.of (H1.out.trans u2)
      have Hu2 := Hid.of u2
      clear u2
      dsimp only
      go_wp2_with fail
      refine ((HS _).out).mono ?_
      rintro e w9 ⟨rfl, h9⟩
      obtain rfl := h9.symm
      clear h9
      dsimp only
      go_wp2
      go_ret
      rw [HR.out]
      exact ⟨rfl, H2.out⟩
set_option maxRecDepth 100000 in
set_option maxHeartbeats 1000000 in
theorem CompareFunc_walkU (v1 v2 : Value) (xs ys : List (List UInt8)) (w : World) (hG : GM w) (h1 : SlS w v1 xs) (h2 : SlS w v2 ys) (hl1 : xs.length ≤ 1048576) (_hl2 : ys.length ≤ 1048576) :
    Calls Tryz.prog 92 #[v1, v2, .func (.func 93) #[] #[]] w fun e w' => e = .returned (.int .i64 (cmpL cmpW xs ys)) ∧ Ud w w' := by
  have HG := Hid.of hG
  have HS1 := Hid.of h1
  have HS2 := Hid.of h2
  obtain ⟨a1, c1, rfl⟩ := h1.len
  obtain ⟨a2, c2, rfl⟩ := h2.len
  clear hG h1 h2
  go_enter Tryz.func92, Tryz.ntmps92
  go_wp2
  go_loopw [7, 8, 9, 10, 13] (fun _ _ _ _ v13 wr => ∃ i : Nat, v13 = .int .i64 (i : Int) ∧ i ≤ xs.length ∧ Hid (i ≤ ys.length ∧ cmpL cmpW xs ys = cmpL cmpW (xs.drop i) (ys.drop i) ∧ Ud w wr)) (fun _ _ _ _ v13 _ => xs.length - (intOf v13).toNat)
  case atStart => exact ⟨0, rfl, by omega, Nat.zero_le _, rfl, Ud.refl _⟩
  case round =>
    obtain ⟨i, rfl, hi, hI⟩ := hrel
    by_cases hlt : i < xs.length
    · have hltz : (i : Int) < (xs.length : Int) := by omega
      obtain ⟨b1, o1, rfl, hc1⟩ := (HS1.out.up (hI.out.2.2).1).get hlt
      by_cases hlt2 : i < ys.length
      · have hlt2z : ¬ (ys.length : Int) ≤ (i : Int) := by omega
        have hlt2y : (i : Int) < (ys.length : Int) := by omega
        obtain ⟨b2, o2, rfl, hc2⟩ := (HS2.out.up (hI.out.2.2).1).get hlt2
        have HW := Hid.of (compareWords_walkU ⟨xs[i].toArray⟩ ⟨ys[i].toArray⟩ wr (HG.out.up (hI.out.2.2).1))
        rw [ba_data, ba_data] at HW
        have HE := Hid.of (show cmpL cmpW xs ys = if cmpW xs[i] ys[i] = 0 then cmpL cmpW (xs.drop (i + 1)) (ys.drop (i + 1)) else cmpW xs[i] ys[i] by
          rw [hI.out.2.1, List.drop_eq_getElem_cons hlt, List.drop_eq_getElem_cons hlt2]; rfl)
        generalize xs[i] = x at *
        generalize ys[i] = y at *
        by_cases hz : cmpW x y = 0
        · rw [hz] at HW
          have HE2 := Hid.of (HE.out.trans (if_pos hz))
          clear hz
          go_wp2_with fail
          refine (HW.out).mono ?_
          rintro e w1 ⟨rfl, u1⟩
          have H1 := Hid.of (hI.out.2.2.trans u1)
          have Hu1 := Hid.of u1
          clear u1
          dsimp only
          go_wp2
          go_roundw
          case rel => exact ⟨i + 1, by go_num, by omega, hlt2, HE2.out, H1.out⟩
          case measure => simp [intOf]; omega
        · have HE2 := Hid.of (HE.out.trans (if_neg hz))
          have hzz : (cmpW x y != 0) = true := by rw [bne_iff_ne]; exact hz
          generalize cmpW x y = cw at *
          clear hz
          go_wp2_with fail
          refine (HW.out).mono ?_
          rintro e w1 ⟨rfl, u1⟩
          have H1 := Hid.of (hI.out.2.2.trans u1)
          have Hu1 := Hid.of u1
          clear u1
          dsimp only
          go_wp2
          go_ret
          rw [HE2.out]
          exact ⟨rfl, H1.out⟩
      · have hlt2z : (ys.length : Int) ≤ (i : Int) := by omega
        have HE := Hid.of (show cmpL cmpW xs ys = 1 by
          rw [hI.out.2.1, List.drop_eq_getElem_cons hlt, List.drop_eq_nil_of_le (show ys.length ≤ i by omega)]; rfl)
        go_wp2
        go_ret
        rw [HE.out]
        exact ⟨rfl, hI.out.2.2⟩
    · have hltz : ¬ (i : Int) < (xs.length : Int) := by omega
      have hia : i = xs.length := by omega
      by_cases hl : xs.length < ys.length
      · have hlz : (xs.length : Int) < (ys.length : Int) := by omega
        have HE := Hid.of (show cmpL cmpW xs ys = -1 by
          rw [hI.out.2.1, List.drop_eq_nil_of_le (show xs.length ≤ i by omega), List.drop_eq_getElem_cons (show i < ys.length by omega)]; rfl)
        clear hia
        go_wp2
        go_ret
        rw [HE.out]
        exact ⟨rfl, hI.out.2.2⟩
      · have hlz : ¬ (xs.length : Int) < (ys.length : Int) := by omega
        have HE := Hid.of (show cmpL cmpW xs ys = 0 by
          rw [hI.out.2.1, List.drop_eq_nil_of_le (show xs.length ≤ i by omega), List.drop_eq_nil_of_le (show ys.length ≤ i by omega)]; rfl)
        clear hia
        go_wp2
        go_ret
        rw [HE.out]
        exact ⟨rfl, hI.out.2.2⟩
end Go.Proofs.YtnciglpdjpckiaaGreatDoor
namespace Go.Proofs.YtnciglpdjpckiaaGreatDoor
open Go.RowKit Go.Shelf TextNum ModNum
set_option maxRecDepth 100000 in
set_option maxHeartbeats 2000000 in
theorem compareParts_walkU (m0 m1 m2 n0 n1 n2 : List UInt8) (v1 v2 : Value) (xs ys : List (List UInt8)) (i1 i2 : Bool) (w : World) (hG : GM w) (h1 : SlS w v1 xs) (h2 : SlS w v2 ys) (hl1 : xs.length ≤ 1048576) (hl2 : ys.length ≤ 1048576) :
    Calls Tryz.prog 49 #[.agg (pc5 m0 m1 m2 v1 i1), .agg (pc5 n0 n1 n2 v2 i2)] w fun e w' => e = .returned (.int .i64 (cmpP ⟨[m0, m1, m2], xs, i1⟩ ⟨[n0, n1, n2], ys, i2⟩)) ∧ Ud w w' := by
  have HG := Hid.of hG
  have HS1 := Hid.of h1
  have HS2 := Hid.of h2
  obtain ⟨a1, c1, rfl⟩ := h1.len
  obtain ⟨a2, c2, rfl⟩ := h2.len
  clear hG h1 h2
  have HA1 : Hid (At ((w.alloc (.cells (pc5 m0 m1 m2 (.slice a1 xs.length c1) i1) 54)).alloc (.cells (pc5 n0 n1 n2 (.slice a2 ys.length c2) i2) 54)) w.heap.size 54 (pc5 m0 m1 m2 (.slice a1 xs.length c1) i1).toList) := At.up (at_new w 54 (pc5 m0 m1 m2 (.slice a1 xs.length c1) i1).toList) (((Ud.refl _).alloc _).1)
  have HA2 : Hid (At ((w.alloc (.cells (pc5 m0 m1 m2 (.slice a1 xs.length c1) i1) 54)).alloc (.cells (pc5 n0 n1 n2 (.slice a2 ys.length c2) i2) 54)) (w.heap.size + 1) 54 (pc5 n0 n1 n2 (.slice a2 ys.length c2) i2).toList) := by
    have := at_new (w.alloc (.cells (pc5 m0 m1 m2 (.slice a1 xs.length c1) i1) 54)) 54 (pc5 n0 n1 n2 (.slice a2 ys.length c2) i2).toList
    rw [alloc_size] at this
    exact this
  have HU0 : Hid (Ud w ((w.alloc (.cells (pc5 m0 m1 m2 (.slice a1 xs.length c1) i1) 54)).alloc (.cells (pc5 n0 n1 n2 (.slice a2 ys.length c2) i2) 54))) := ((Ud.refl w).alloc _).alloc _
  go_enter Tryz.func49, Tryz.ntmps49
  go_wp2
  generalize ((w.alloc (.cells (pc5 m0 m1 m2 (.slice a1 xs.length c1) i1) 54)).alloc (.cells (pc5 n0 n1 n2 (.slice a2 ys.length c2) i2) 54)) = W0 at *
  go_loopw [5, 6, 7] (fun _ _ v7 wr => ∃ i : Nat, v7 = .int .i64 (i : Int) ∧ i ≤ 3 ∧ Hid (cmp3 [m0, m1, m2] [n0, n1, n2] = cmp3 ([m0, m1, m2].drop i) ([n0, n1, n2].drop i) ∧ Ud W0 wr)) (fun _ _ v7 _ => 3 - (intOf v7).toNat)
  case atStart => exact ⟨0, rfl, by omega, rfl, Ud.refl _⟩
  case round =>
    obtain ⟨i, rfl, hi, hI⟩ := hrel
    obtain ⟨wb, hwb⟩ : ∃ wb, wb = wr := ⟨_, rfl⟩
    subst hwb
    by_cases hlt : i < 3
    · have hltz : (i : Int) < 3 := by omega
      obtain ⟨x, hx, hx2⟩ := pc_get (n0 := m0) (n1 := m1) (n2 := m2) (v := .slice a1 xs.length c1) (inc := i1) hlt
      obtain ⟨y, hy, hy2⟩ := pc_get (n0 := n0) (n1 := n1) (n2 := n2) (v := .slice a2 ys.length c2) (inc := i2) hlt
      have hcx := (HA1.out.up (hI.out.2).1).cell hx2
      have hcy := (HA2.out.up (hI.out.2).1).cell hy2
      have HE := Hid.of (hI.out.1.trans (cmp3_step hx hy))
      have HC := fun w' => Hid.of (compareNumbers_walkU ⟨x.toArray⟩ ⟨y.toArray⟩ w')
      rw [ba_data, ba_data] at HC
      have HX := Hid.of (And.intro hcx hcy)
      clear hx hx2 hy hy2
      go_wp2_with fail
      go_region_held3 (fun w2 => w2.cell? ⟨w.heap.size, i, none⟩ = some (.string ⟨x.toArray⟩) ∧ w2.cell? ⟨w.heap.size + 1, i, none⟩ = some (.string ⟨y.toArray⟩) ∧ Ud wb w2)
        (first
          | exact ⟨hcx, hcy, (Ud.refl _).drew⟩
          | exact ⟨(‹Ud _ _›).cell (‹_ ∧ _ ∧ Ud wb _›).1, (‹Ud _ _›).cell (‹_ ∧ _ ∧ Ud wb _›).2.1, (‹_ ∧ _ ∧ Ud wb _›).2.2.trans ‹Ud _ _›⟩)
        (first
          | (go_at_call 90; refine (HC _).out.mono ?_; rintro e w5 ⟨rfl, u5⟩))
      have HU5 := Hid.of (hI.out.2.trans (‹_ ∧ _ ∧ Ud wb _›).2.2)
      by_cases hz : cmpU x y = 0
      · have HE2 := Hid.of (HE.out.trans (if_pos hz))
        rw [hz]
        clear hz
        go_wp2
        go_roundw
        case rel => exact ⟨i + 1, by go_num, by omega, HE2.out, HU5.out⟩
        case measure => simp [intOf]; omega
      · have HE2 := Hid.of (HE.out.trans (if_neg hz))
        have hzz : (cmpU x y != 0) = true := by rw [bne_iff_ne]; exact hz
        have HR := Hid.of (show cmpP ⟨[m0, m1, m2], xs, i1⟩ ⟨[n0, n1, n2], ys, i2⟩ = cmpU x y by
          show (if cmp3 [m0, m1, m2] [n0, n1, n2] = 0 then cmpWs xs ys else cmp3 [m0, m1, m2] [n0, n1, n2]) = _
          rw [HE2.out, if_neg hz])
        generalize cmpU x y = cu at *
        clear hz
        go_wp2
        go_ret
        rw [HR.out]
        exact ⟨rfl, HU0.out.trans HU5.out⟩
    · have hltz : ¬ (i : Int) < 3 := by omega
      have h3 : i = 3 := by omega
      have HR := Hid.of (show cmpP ⟨[m0, m1, m2], xs, i1⟩ ⟨[n0, n1, n2], ys, i2⟩ = cmpWs xs ys by
        have h2 := hI.out.1
        rw [h3] at h2
        have h4 : cmp3 [m0, m1, m2] [n0, n1, n2] = 0 := h2
        show (if cmp3 [m0, m1, m2] [n0, n1, n2] = 0 then cmpWs xs ys else cmp3 [m0, m1, m2] [n0, n1, n2]) = _
        rw [if_pos h4])
      have hc1 := (HA1.out.up (hI.out.2).1).cell (i := 3) rfl
      have hc2 := (HA2.out.up (hI.out.2).1).cell (i := 3) rfl
      have HO := Hid.of (orderI_walk ys.length xs.length wb)
      have HC := Hid.of (CompareFunc_walkU _ _ xs ys wb (HG.out.up ((HU0.out.trans hI.out.2)).1) (HS1.out.up ((HU0.out.trans hI.out.2)).1) (HS2.out.up ((HU0.out.trans hI.out.2)).1) hl1 hl2)
      clear h3 hi hlt
      by_cases hx0 : xs.length = 0
      · have hx0z : ((xs.length : Int) == 0) = true := by rw [beq_iff_eq]; omega
        have HW := Hid.of (show cmpWs xs ys = cmpN ys.length xs.length from if_pos (.inl (List.length_eq_zero_iff.1 hx0)))
        generalize cmpN ys.length xs.length = cn at *
        generalize xs.length = xl at *
        clear hx0
        go_wp2_with fail
        refine (HO.out).mono ?_
        rintro e w9 ⟨rfl, h9⟩
        obtain rfl := h9.symm
        clear h9
        dsimp only
        go_wp2
        go_ret
        rw [HR.out, HW.out]
        exact ⟨rfl, HU0.out.trans hI.out.2⟩
      · have hx0z : ((xs.length : Int) == 0) = false := by rw [beq_eq_false_iff_ne]; omega
        by_cases hy0 : ys.length = 0
        · have hy0z : ((ys.length : Int) == 0) = true := by rw [beq_iff_eq]; omega
          have HW := Hid.of (show cmpWs xs ys = cmpN ys.length xs.length from if_pos (.inr (List.length_eq_zero_iff.1 hy0)))
          generalize cmpN ys.length xs.length = cn at *
          generalize xs.length = xl at *
          generalize ys.length = yl at *
          clear hx0 hy0
          go_wp2_with fail
          refine (HO.out).mono ?_
          rintro e w9 ⟨rfl, h9⟩
          obtain rfl := h9.symm
          clear h9
          dsimp only
          go_wp2
          go_ret
          rw [HR.out, HW.out]
          exact ⟨rfl, HU0.out.trans hI.out.2⟩
        · have hy0z : ((ys.length : Int) == 0) = false := by rw [beq_eq_false_iff_ne]; omega
          have HW := Hid.of (show cmpWs xs ys = cmpL cmpW xs ys from if_neg (by
            rintro (h | h)
            · exact hx0 (by rw [h]; rfl)
            · exact hy0 (by rw [h]; rfl)))
          generalize cmpL cmpW xs ys = cn at *
          generalize xs.length = xl at *
          generalize ys.length = yl at *
          clear hx0 hy0
          go_wp2_with fail
          refine (HC.out).mono ?_
          rintro e w1 ⟨rfl, u1⟩
          have H1 := Hid.of (hI.out.2.trans u1)
          have Hu1 := Hid.of u1
          clear u1
          dsimp only
          go_wp2
          go_ret
          rw [HR.out, HW.out]
          exact ⟨rfl, HU0.out.trans H1.out⟩
end Go.Proofs.YtnciglpdjpckiaaGreatDoor
namespace Go.Proofs.YtnciglpdjpckiaaGreatDoor
open Go.RowKit Go.Shelf TextNum ModNum
/-- a key that has been read, as it lies in its seven cells; its words -/
structure En where
  x0 : List UInt8
  x1 : List UInt8
  n0 : List UInt8
  n1 : List UInt8
  n2 : List UInt8
  a : Option Addr
  c : Nat
  b : Bool
  ws : List (List UInt8)
def en7 (x : En) : List Value := c7 ⟨x.x0.toArray⟩ ⟨x.x1.toArray⟩ ⟨x.n0.toArray⟩ ⟨x.n1.toArray⟩ ⟨x.n2.toArray⟩ x.a x.ws.length x.c x.b
theorem en7_len (x : En) : (en7 x).length = 7 := rfl
def zEn : En := ⟨[], [], [], [], [], none, 0, false, []⟩
def En.v (x : En) : List UInt8 × List UInt8 × List UInt8 × List (List UInt8) := (x.n0, x.n1, x.n2, x.ws)
def cmpE (x y : En) : Int := if cmpB x.x0 y.x0 = 0 then (if cmp4 x.v y.v = 0 then cmpB x.x1 y.x1 else cmp4 x.v y.v) else cmpB x.x0 y.x0
theorem ord_E : Ord cmpE := (ord_B.pull En.x0).lex ((ord_4.pull En.v).lex (ord_B.pull En.x1))
theorem cmpP_4 (m0 m1 m2 n0 n1 n2 : List UInt8) (xs ys : List (List UInt8)) (i j : Bool) : cmpP ⟨[m0, m1, m2], xs, i⟩ ⟨[n0, n1, n2], ys, j⟩ = cmp4 (m0, m1, m2, xs) (n0, n1, n2, ys) := by
  show (if cmp3 [m0, m1, m2] [n0, n1, n2] = 0 then cmpWs xs ys else cmp3 [m0, m1, m2] [n0, n1, n2]) = _
  rw [cmp3_eq]
  rfl
/-- the order of keys -/
def kcm (s t : List UInt8) : Int := if cmpB (ahd 64 s) (ahd 64 t) = 0 then (if cmpV (bhd 64 s) (bhd 64 t) = 0 then cmpB (bhd 64 s) (bhd 64 t) else cmpV (bhd 64 s) (bhd 64 t)) else cmpB (ahd 64 s) (ahd 64 t)
theorem ord_K : Ord kcm := (ord_B.pull (ahd 64)).lex ((ord_V.pull (bhd 64)).lex (ord_B.pull (bhd 64)))
theorem cmpB_zero : ∀ {a b : List UInt8}, cmpB a b = 0 → a = b
  | [], [], _ => rfl
  | [], _ :: _, h => by simp [cmpB] at h
  | _ :: _, [], h => by simp [cmpB] at h
  | x :: a, y :: b, h => by
    unfold cmpB at h
    split at h
    · simp at h
    · split at h
      · simp at h
      · have hx : x = y := UInt8.toNat_inj.1 (by omega)
        rw [hx, cmpB_zero h]
theorem kcm_zero {s t : List UInt8} (hs : 64 ∈ s) (ht : 64 ∈ t) (h : kcm s t = 0) : s = t := by
  unfold kcm at h
  split at h
  · rename_i h1
    split at h
    · rw [cut_eq hs, cut_eq ht, cmpB_zero h1, cmpB_zero h]
    · contradiction
  · contradiction
/-- the one list in order -/
theorem sorted_one {a b l : List (List UInt8)} (hl : ∀ s ∈ l, 64 ∈ s) (ha : a.Perm l) (hb : b.Perm l) (sa : a.Pairwise fun s t => kcm s t ≤ 0) (sb : b.Pairwise fun s t => kcm s t ≤ 0) : a = b :=
  List.Perm.eq_of_pairwise (le := fun s t => kcm s t ≤ 0) (fun s t hs ht h1 h2 => kcm_zero (hl s (ha.mem_iff.1 hs)) (hl t (hb.mem_iff.1 ht)) (by have := ord_K.anti s t; omega)) sa sb (ha.trans hb.symm)
/-- what was read is of this key -/
def EnF (x : En) (s : List UInt8) : Prop := x.x0 = ahd 64 s ∧ x.x1 = bhd 64 s ∧ vp (bhd 64 s) = ⟨[x.n0, x.n1, x.n2], x.ws, x.b⟩
theorem EnF.cmp {x y : En} {s t : List UInt8} (hx : EnF x s) (hy : EnF y t) : cmpE x y = kcm s t := by
  unfold cmpE kcm
  have h : cmpV (bhd 64 s) (bhd 64 t) = cmp4 x.v y.v := by
    show cmpP (vp (bhd 64 s)) (vp (bhd 64 t)) = _
    rw [hx.2.2, hy.2.2, cmpP_4]; rfl
  rw [hx.1, hy.1, hx.2.1, hy.2.1, h]
def En.key (x : En) : List UInt8 := x.x0 ++ 64 :: x.x1
theorem EnF.key {x : En} {s : List UInt8} (hx : EnF x s) (h : 64 ∈ s) : x.key = s := by
  unfold En.key
  rw [hx.1, hx.2.1]
  exact (cut_eq h).symm
theorem pkE_at {s : List UInt8} (h : pkE s = 0) : 64 ∈ s := by
  apply Classical.byContradiction
  intro h2
  unfold pkE at h
  rw [if_pos (.inl h2)] at h
  simp at h
/-- the row of what was read -/
def ecs (l : List En) : List Value := l.flatMap en7
theorem ecs_len (l : List En) : (ecs l).length = l.length * 7 := by
  induction l with
  | nil => rfl
  | cons x l ih => simp [ecs, en7_len] at ih ⊢; omega
theorem ecs_app (l m : List En) : ecs (l ++ m) = ecs l ++ ecs m := by simp [ecs]
theorem ecs_get : ∀ (ws : List En) {i c : Nat} (hi : i < ws.length), c < 7 → (ecs ws)[i * 7 + c]? = (en7 ws[i])[c]?
  | x :: r, 0, c, _, hc => by
    show (en7 x ++ ecs r)[0 * 7 + c]? = _
    rw [Nat.zero_mul, Nat.zero_add, List.getElem?_append_left (by rw [en7_len]; exact hc)]
    rfl
  | x :: r, i + 1, c, hi, hc => by
    have ih := ecs_get r (i := i) (c := c) (by simpa using hi) hc
    show (en7 x ++ ecs r)[(i + 1) * 7 + c]? = _
    rw [List.getElem?_append_right (by rw [en7_len]; omega), show (i + 1) * 7 + c - (en7 x).length = i * 7 + c by rw [en7_len]; omega, ih]
    rfl
theorem en7_one (x : En) (v : Value) (h : v ∈ en7 x) : v.oneCell' = true := by
  unfold en7 c7 at h
  simp at h
  rcases h with rfl | rfl | rfl | rfl | rfl | rfl | rfl <;> rfl
end Go.Proofs.YtnciglpdjpckiaaGreatDoor
namespace Go.Proofs.YtnciglpdjpckiaaGreatDoor
open Go.RowKit Go.Shelf TextNum ModNum
/-- what readKey answers -/
def RE (s : List UInt8) (w : World) (e : Ending) (w' : World) : Prop := ∃ x : En, e = .returned (.tuple #[.agg (en7 x).toArray, .int .i64 (pkE s)]) ∧ (pkE s = 0 → EnF x s ∧ SlS w' (.slice x.a x.ws.length x.c) x.ws ∧ ∀ b, x.a = some b → w.heap.size < b.block) ∧ Up w w'
theorem RE.no {s : List UInt8} {k : Int} {w w' : World} (h : pkE s = k) (hk : k ≠ 0) (u : Up w w') : RE s w (.returned (.tuple #[.agg z7.toArray, .int .i64 k])) w' :=
  ⟨zEn, by rw [h]; rfl, fun h0 => absurd (h.symm.trans h0) hk, u⟩
set_option maxRecDepth 100000 in
set_option maxHeartbeats 2000000 in
theorem readKey_en (s : ByteArray) (hs : s.size ≤ 4611686018427387904) (w : World) (hG : GR w) : Calls Tryz.prog 20 #[.string s] w (RE s.data.toList w) := by
  have HC := fun w' => Hid.of (CutA_walk s hs 64 w')
  have HH := fun w' => Hid.of (Has_walk ⟨(bhd 64 s.data.toList).toArray⟩ 64 w')
  rw [ba_data'] at HH
  have HF := fun w' => fun (u : Up w w') => Hid.of (partsFor_walk ⟨(ahd 64 s.data.toList).toArray⟩ ⟨(bhd 64 s.data.toList).toArray⟩ w' (hG.up u))
  have HE : Hid (pkE s.data.toList = if 64 ∉ s.data.toList ∨ 64 ∈ bhd 64 s.data.toList then 113 else fte (ahd 64 s.data.toList) (bhd 64 s.data.toList)) := rfl
  clear hG hs
  have HA := Hid.of (at_new w 56 z7)
  have HU := Hid.of ((Up.refl w).alloc (.cells z7.toArray 56))
  by_cases h1 : 64 ∈ s.data.toList
  · rw [decide_eq_true h1] at HC
    by_cases h2 : 64 ∈ bhd 64 s.data.toList
    · rw [decide_eq_true h2] at HH
      have HN := Hid.of (HE.out.trans (if_pos (.inr h2)))
      clear h1 h2 HE HF
      generalize (⟨(bhd 64 s.data.toList).toArray⟩ : ByteArray) = sb at *
      generalize (⟨(ahd 64 s.data.toList).toArray⟩ : ByteArray) = sa at *
      go_enter Tryz.func20, Tryz.ntmps20
      go_wp2_with fail
      generalize w.alloc (.cells z7.toArray 56) = W0 at *
      refine (HC _).out.mono ?_
      rintro e w1 ⟨rfl, u1⟩
      have HA1 := Hid.of (HA.out.up u1)
      have HU1 := Hid.of (HU.out.trans u1)
      clear u1 HA HU HC
      dsimp only
      go_wp2_with fail
      refine ((HH _).out).mono ?_
      rintro e w9 ⟨rfl, h9⟩
      obtain rfl := h9.symm
      clear h9
      dsimp only
      go_wp2_with (with_reducible show wpList _ _ _ ({ dst := _, op := Op.store 56 _ _, type := _, pos := _, after := _, guard := _ } :: _) _ _; refine Shut.out ?_)
      show wpList _ _ _ _ _ _
      refine wpList_store_at rfl _ _ _ rfl w.heap.size HA1.out z7 rfl rfl rfl (by kernel_rfl) (one7 _ _ _ _ _ _ _ _ _) fun x1 hx1 hg1 => ?_
      have HX := Hid.of hx1
      have HXU := Hid.of (HU1.out.by hg1 (fun g hg => by injection hg with hg; omega))
      clear hx1 hg1 HA1 HU1
      simp only [Act.put]
      go_wp2
      refine bodyPost_ret (result_cell_tmp Tryz.results20 _ _ w.heap.size z7 _ rfl rfl HX.out.range Tryz.underlying56 rfl infoEntry) rfl ?_
      exact RE.no HN.out (by decide) HXU.out
    · rw [decide_eq_false h2] at HH
      have HE2 := Hid.of (HE.out.trans (if_neg (by rintro (h | h); exact h h1; exact h2 h)))
      clear h1 h2 HE
      obtain ⟨sa, hsa⟩ : ∃ sa : ByteArray, sa = ⟨(ahd 64 s.data.toList).toArray⟩ := ⟨_, rfl⟩
      obtain ⟨sb, hsb⟩ : ∃ sb : ByteArray, sb = ⟨(bhd 64 s.data.toList).toArray⟩ := ⟨_, rfl⟩
      have HF2 : ∀ w', Up w w' → Hid (Calls Tryz.prog 44 #[.string sa, .string sb] w' (FR (ahd 64 s.data.toList) (bhd 64 s.data.toList) w')) := by rw [hsa, hsb]; exact HF
      clear HF
      rw [← hsb] at HH
      rw [← hsa, ← hsb] at HC
      have HSA := Hid.of (And.intro hsa hsb)
      clear hsa hsb
      go_enter Tryz.func20, Tryz.ntmps20
      go_wp2_with fail
      generalize w.alloc (.cells z7.toArray 56) = W0 at *
      refine (HC _).out.mono ?_
      rintro e w1 ⟨rfl, u1⟩
      have HA1 := Hid.of (HA.out.up u1)
      have HU1 := Hid.of (HU.out.trans u1)
      clear u1 HA HU HC
      dsimp only
      go_wp2_with fail
      refine ((HH _).out).mono ?_
      rintro e w9 ⟨rfl, h9⟩
      obtain rfl := h9.symm
      clear h9
      dsimp only
      go_wp2_with fail
      refine (HF2 _ HU1.out).out.mono ?_
      rintro e w2 ⟨n0, n1, n2, v, ws, inc, rfl, hS, hbk, hvp, u2⟩
      have HA2 := Hid.of ((HA1.out.up u2).up ((Up.refl w2).alloc (.cells (pc5 n0 n1 n2 v inc) 54)))
      have HU2 := Hid.of ((HU1.out.trans u2).alloc (.cells (pc5 n0 n1 n2 v inc) 54))
      obtain ⟨va, vc, rfl⟩ := hS.len
      have hlt1 := lt_of_at HA1.out
      have HS := Hid.of (show SlS (w2.alloc (.cells (pc5 n0 n1 n2 (.slice va ws.length vc) inc) 54)) (.slice va ws.length vc) ws ∧ ∀ b, va = some b → w.heap.size < b.block from ⟨hS.up ((Up.refl w2).alloc _), fun b hb => by subst hb; exact Nat.lt_of_lt_of_le hlt1 (hbk b.block rfl)⟩)
      have HVP := Hid.of hvp
      clear hlt1 hbk hvp
      generalize hwn : ws.length = wn at *
      have HWN := Hid.of hwn
      clear u2 HA1 HU1 HF2 hS HH hwn
      dsimp only
      by_cases h0 : fte (ahd 64 s.data.toList) (bhd 64 s.data.toList) = 0
      · have HE3 := Hid.of (HE2.out.trans h0)
        have HV0 := Hid.of (HVP.out h0)
        rw [h0]
        clear h0 HE2
        go_wp2_with (with_reducible show wpList _ _ _ ({ dst := _, op := Op.store 56 _ _, type := _, pos := _, after := _, guard := _ } :: _) _ _; refine Shut.out ?_)
        show wpList _ _ _ _ _ _
        generalize w2.alloc (.cells (pc5 n0 n1 n2 (.slice va wn vc) inc) 54) = W3 at *
        refine wpList_store_at rfl _ _ _ rfl w.heap.size HA2.out (c7 sa sb ⟨n0.toArray⟩ ⟨n1.toArray⟩ ⟨n2.toArray⟩ va wn vc inc) rfl rfl rfl (by kernel_rfl) (one7 _ _ _ _ _ _ _ _ _) fun x1 hx1 hg1 => ?_
        have HX := Hid.of hx1
        have HXU := Hid.of (HU2.out.by hg1 (fun g hg => by injection hg with hg; omega))
        have HXS := Hid.of (HS.out.1.by hg1 (fun g hg e => by
          injection e with e
          cases va with
          | none => cases hg
          | some b =>
            have h1 := HS.out.2 b rfl
            have h2 : b.block = g := by injection hg
            omega))
        clear hx1 hg1 HA2 HU2
        simp only [Act.put]
        go_wp2
        refine bodyPost_ret (result_cell_tmp Tryz.results20 _ _ w.heap.size _ _ rfl rfl HX.out.range Tryz.underlying56 rfl infoEntry) rfl ?_
        have hwn := HWN.out
        subst hwn
        refine ⟨⟨ahd 64 s.data.toList, bhd 64 s.data.toList, n0, n1, n2, va, vc, inc, ws⟩, ?_, fun _ => ⟨⟨rfl, rfl, HV0.out⟩, HXS.out, HS.out.2⟩, HXU.out⟩
        rw [HE3.out]
        show _ = Ending.returned (.tuple #[.agg (c7 ⟨(ahd 64 s.data.toList).toArray⟩ ⟨(bhd 64 s.data.toList).toArray⟩ _ _ _ _ _ _ _).toArray, _])
        rw [← HSA.out.1, ← HSA.out.2]
        rfl
      · have HE3 := Hid.of (And.intro HE2.out h0)
        have h0z : (fte (ahd 64 s.data.toList) (bhd 64 s.data.toList) != 0) = true := by rw [bne_iff_ne]; exact h0
        generalize fte (ahd 64 s.data.toList) (bhd 64 s.data.toList) = fe at *
        clear h0 HE2
        go_wp2_with (with_reducible show wpList _ _ _ ({ dst := _, op := Op.store 56 _ _, type := _, pos := _, after := _, guard := _ } :: _) _ _; refine Shut.out ?_)
        show wpList _ _ _ _ _ _
        generalize w2.alloc (.cells (pc5 n0 n1 n2 (.slice va wn vc) inc) 54) = W3 at *
        refine wpList_store_at rfl _ _ _ rfl w.heap.size HA2.out z7 rfl rfl rfl (by kernel_rfl) (one7 _ _ _ _ _ _ _ _ _) fun x1 hx1 hg1 => ?_
        have HX := Hid.of hx1
        have HXU := Hid.of (HU2.out.by hg1 (fun g hg => by injection hg with hg; omega))
        clear hx1 hg1 HA2 HU2
        simp only [Act.put]
        go_wp2
        refine bodyPost_ret (result_cell_tmp Tryz.results20 _ _ w.heap.size z7 _ rfl rfl HX.out.range Tryz.underlying56 rfl infoEntry) rfl ?_
        exact RE.no HE3.out.1 HE3.out.2 HXU.out
  · rw [decide_eq_false h1] at HC
    have HN := Hid.of (HE.out.trans (if_pos (.inl h1)))
    clear h1 HE HF HH
    generalize (⟨(bhd 64 s.data.toList).toArray⟩ : ByteArray) = sb at *
    generalize (⟨(ahd 64 s.data.toList).toArray⟩ : ByteArray) = sa at *
    go_enter Tryz.func20, Tryz.ntmps20
    go_wp2_with fail
    generalize w.alloc (.cells z7.toArray 56) = W0 at *
    refine (HC _).out.mono ?_
    rintro e w1 ⟨rfl, u1⟩
    have HA1 := Hid.of (HA.out.up u1)
    have HU1 := Hid.of (HU.out.trans u1)
    clear u1 HA HU HC
    dsimp only
    go_wp2_with (with_reducible show wpList _ _ _ ({ dst := _, op := Op.store 56 _ _, type := _, pos := _, after := _, guard := _ } :: _) _ _; refine Shut.out ?_)
    show wpList _ _ _ _ _ _
    refine wpList_store_at rfl _ _ _ rfl w.heap.size HA1.out z7 rfl rfl rfl (by kernel_rfl) (one7 _ _ _ _ _ _ _ _ _) fun x1 hx1 hg1 => ?_
    have HX := Hid.of hx1
    have HXU := Hid.of (HU1.out.by hg1 (fun g hg => by injection hg with hg; omega))
    clear hx1 hg1 HA1 HU1
    simp only [Act.put]
    go_wp2
    refine bodyPost_ret (result_cell_tmp Tryz.results20 _ _ w.heap.size z7 _ rfl rfl HX.out.range Tryz.underlying56 rfl infoEntry) rfl ?_
    exact RE.no HN.out (by decide) HXU.out
end Go.Proofs.YtnciglpdjpckiaaGreatDoor
namespace Go.Proofs.YtnciglpdjpckiaaGreatDoor
open Go.RowKit Go.Shelf TextNum ModNum
set_option maxRecDepth 100000 in
theorem Or3_walk (x y z : Int) (b : Nat) (w : World) (h0 : w.cell? ⟨b, 0, none⟩ = some (.int .i64 x)) (h1 : w.cell? ⟨b, 1, none⟩ = some (.int .i64 y)) (h2 : w.cell? ⟨b, 2, none⟩ = some (.int .i64 z)) : Calls Tryz.prog 47 #[.slice (some ⟨b, 0, none⟩) 3 3] w fun e w' => e = .returned (.int .i64 (if x = 0 then (if y = 0 then z else y) else x)) ∧ w' = w := by
  go_enter Tryz.func47, Tryz.ntmps47
  go_wp2
  go_loopw [5, 8] (fun _ v8 wr => ∃ i : Nat, v8 = .int .i64 (i : Int) ∧ i ≤ 3 ∧ wr = w ∧ Hid ((0 < i → x = 0) ∧ (1 < i → y = 0) ∧ (2 < i → z = 0))) (fun _ v8 _ => 3 - (intOf v8).toNat)
  case atStart => exact ⟨0, rfl, by omega, rfl, by omega, by omega, by omega⟩
  case round =>
    obtain ⟨i, rfl, hi, hwr, hI⟩ := hrel
    obtain rfl : w = wr := hwr.symm
    clear hwr
    obtain rfl | rfl | rfl | rfl : i = 0 ∨ i = 1 ∨ i = 2 ∨ i = 3 := by omega
    · by_cases hv : x = 0
      · subst hv
        go_wp2
        go_roundw
        case rel => exact ⟨1, by go_num, by omega, by simp, by simp, by omega, by omega⟩
        case measure => simp [intOf]
      · have hvz : (x != 0) = true := by rw [bne_iff_ne]; exact hv
        have HX := Hid.of hv
        clear hv
        go_wp2
        go_ret
        first | exact ⟨rfl, rfl⟩ | exact ⟨rfl, trivial⟩ | (rw [if_pos rfl]; exact ⟨rfl, rfl⟩) | (rw [if_pos rfl, if_neg HX.out]; exact ⟨rfl, rfl⟩) | (rw [if_neg HX.out]; exact ⟨rfl, rfl⟩)
    · have hx := hI.out.1 (by omega)
      subst hx
      by_cases hv : y = 0
      · subst hv
        go_wp2
        go_roundw
        case rel => exact ⟨2, by go_num, by omega, by simp, by simp, by simp, by omega⟩
        case measure => simp [intOf]
      · have hvz : (y != 0) = true := by rw [bne_iff_ne]; exact hv
        have HX := Hid.of hv
        clear hv
        go_wp2
        go_ret
        first | exact ⟨rfl, rfl⟩ | exact ⟨rfl, trivial⟩ | (rw [if_pos rfl]; exact ⟨rfl, rfl⟩) | (rw [if_pos rfl, if_neg HX.out]; exact ⟨rfl, rfl⟩) | (rw [if_neg HX.out]; exact ⟨rfl, rfl⟩)
    · have hx := hI.out.1 (by omega)
      have hy := hI.out.2.1 (by omega)
      subst hx hy
      by_cases hv : z = 0
      · subst hv
        go_wp2
        go_roundw
        case rel => exact ⟨3, by go_num, by omega, by simp, by simp, by simp, by simp⟩
        case measure => simp [intOf]
      · have hvz : (z != 0) = true := by rw [bne_iff_ne]; exact hv
        have HX := Hid.of hv
        clear hv
        go_wp2
        go_ret
        first | exact ⟨rfl, rfl⟩ | exact ⟨rfl, trivial⟩ | (rw [if_pos rfl]; exact ⟨rfl, rfl⟩) | (rw [if_pos rfl, if_neg HX.out]; exact ⟨rfl, rfl⟩) | (rw [if_neg HX.out]; exact ⟨rfl, rfl⟩)
    · have hx := hI.out.1 (by omega)
      have hy := hI.out.2.1 (by omega)
      have hz := hI.out.2.2 (by omega)
      subst hx hy hz
      go_wp2
      go_ret
      first | exact ⟨rfl, rfl⟩ | exact ⟨rfl, trivial⟩
theorem At.mid {w : World} {b : Nat} {t : TypeId} {cs ds : List Value} (h : At w b t cs) (o : Nat) (hd : ∀ j v, ds[j]? = some v → cs[o + j]? = some v) : w.rangeAt b o ds := fun j v hv => by
  have := h.cell (hd j v hv)
  first | exact this | (rw [add_plain]; exact this)
set_option maxRecDepth 100000 in
set_option maxHeartbeats 2000000 in
theorem compareEntries_walk (x y : En) (w : World) (hG : GM w) (h1 : SlS w (.slice x.a x.ws.length x.c) x.ws) (h2 : SlS w (.slice y.a y.ws.length y.c) y.ws) (hl1 : x.ws.length ≤ 1048576) (hl2 : y.ws.length ≤ 1048576) :
    Calls Tryz.prog 22 #[.agg (en7 x).toArray, .agg (en7 y).toArray] w fun e w' => e = .returned (.int .i64 (cmpE x y)) ∧ Ud w w' := by
  have HR : Hid (cmpE x y = if cmpB x.x0 y.x0 = 0 then (if cmpP ⟨[x.n0, x.n1, x.n2], x.ws, x.b⟩ ⟨[y.n0, y.n1, y.n2], y.ws, y.b⟩ = 0 then cmpB x.x1 y.x1 else cmpP ⟨[x.n0, x.n1, x.n2], x.ws, x.b⟩ ⟨[y.n0, y.n1, y.n2], y.ws, y.b⟩) else cmpB x.x0 y.x0) := by rw [cmpP_4]; rfl
  have HO0 := fun w' => Hid.of (orderS_walk ⟨x.x0.toArray⟩ ⟨y.x0.toArray⟩ w')
  have HO1 := fun w' => Hid.of (orderS_walk ⟨x.x1.toArray⟩ ⟨y.x1.toArray⟩ w')
  rw [ba_data', ba_data'] at HO0 HO1
  have HA1 : At ((w.alloc (.cells (en7 x).toArray 56)).alloc (.cells (en7 y).toArray 56)) w.heap.size 56 (en7 x) := At.up (at_new w 56 (en7 x)) ((Up.refl _).alloc _)
  have HA2 : At ((w.alloc (.cells (en7 x).toArray 56)).alloc (.cells (en7 y).toArray 56)) (w.heap.size + 1) 56 (en7 y) := by
    have := at_new (w.alloc (.cells (en7 x).toArray 56)) 56 (en7 y)
    rw [alloc_size] at this
    exact this
  have HU0 : Hid (Ud w ((w.alloc (.cells (en7 x).toArray 56)).alloc (.cells (en7 y).toArray 56))) := ((Ud.refl w).alloc _).alloc _
  have HG := Hid.of hG
  obtain ⟨x0, hx0⟩ : ∃ q : ByteArray, q = ⟨x.x0.toArray⟩ := ⟨_, rfl⟩
  obtain ⟨x1, hx1⟩ : ∃ q : ByteArray, q = ⟨x.x1.toArray⟩ := ⟨_, rfl⟩
  obtain ⟨y0, hy0⟩ : ∃ q : ByteArray, q = ⟨y.x0.toArray⟩ := ⟨_, rfl⟩
  obtain ⟨y1, hy1⟩ : ∃ q : ByteArray, q = ⟨y.x1.toArray⟩ := ⟨_, rfl⟩
  obtain ⟨pcx, hpx⟩ : ∃ q : List Value, q = (pc5 x.n0 x.n1 x.n2 (.slice x.a x.ws.length x.c) x.b).toList := ⟨_, rfl⟩
  obtain ⟨pcy, hpy⟩ : ∃ q : List Value, q = (pc5 y.n0 y.n1 y.n2 (.slice y.a y.ws.length y.c) y.b).toList := ⟨_, rfl⟩
  have HOP := fun w' => fun (u : Ud w w') => Hid.of (compareParts_walkU x.n0 x.n1 x.n2 y.n0 y.n1 y.n2 (.slice x.a x.ws.length x.c) (.slice y.a y.ws.length y.c) x.ws y.ws x.b y.b w' (hG.up u.1) (h1.up u.1) (h2.up u.1) hl1 hl2)
  rw [show (pc5 x.n0 x.n1 x.n2 (.slice x.a x.ws.length x.c) x.b) = pcx.toArray by rw [hpx]] at HOP
  rw [show (pc5 y.n0 y.n1 y.n2 (.slice y.a y.ws.length y.c) y.b) = pcy.toArray by rw [hpy]] at HOP
  rw [← hx0, ← hy0] at HO0
  rw [← hx1, ← hy1] at HO1
  have HC := Hid.of (show _ ∧ _ ∧ _ ∧ _ from ⟨HA1.cell (i := 0) (v := .string x0) (by rw [hx0]; rfl), HA2.cell (i := 0) (v := .string y0) (by rw [hy0]; rfl), HA1.cell (i := 1) (v := .string x1) (by rw [hx1]; rfl), HA2.cell (i := 1) (v := .string y1) (by rw [hy1]; rfl)⟩)
  have hm : ∀ (z : En) (j : Nat) (v : Value), (pc5 z.n0 z.n1 z.n2 (.slice z.a z.ws.length z.c) z.b).toList[j]? = some v → (en7 z)[2 + j]? = some v := fun z j v hv => by
    match j, hv with
    | 0, hv => exact hv
    | 1, hv => exact hv
    | 2, hv => exact hv
    | 3, hv => exact hv
    | 4, hv => exact hv
    | j + 5, hv => simp at hv
  have HP := Hid.of (show _ ∧ _ from ⟨HA1.mid 2 (ds := pcx) (fun j v hv => hm x j v (by rw [← hpx]; exact hv)), HA2.mid 2 (ds := pcy) (fun j v hv => hm y j v (by rw [← hpy]; exact hv))⟩)
  have hpl : pcx.length = 5 ∧ pcy.length = 5 := by rw [hpx, hpy]; exact ⟨rfl, rfl⟩
  have infoPx : (Tryz.prog.info? 54).map (·.size) = some pcx.length := by rw [hpl.1]; exact infoParts
  have infoPy : (Tryz.prog.info? 54).map (·.size) = some pcy.length := by rw [hpl.2]; exact infoParts
  clear hG h1 h2 hl1 hl2 hm hpl hx0 hx1 hy0 hy1 HA1 HA2
  generalize cmpE x y = rr at *
  generalize cmpB x.x0 y.x0 = r0 at *
  generalize cmpB x.x1 y.x1 = r2 at *
  generalize cmpP ⟨[x.n0, x.n1, x.n2], x.ws, x.b⟩ ⟨[y.n0, y.n1, y.n2], y.ws, y.b⟩ = r1 at *
  have HO3 := fun b w h0 h1 h2 => Hid.of (Or3_walk r0 r1 r2 b w h0 h1 h2)
  generalize (if r0 = 0 then (if r1 = 0 then r2 else r1) else r0) = ro at *
  have HX := Hid.of (And.intro infoPx infoPy)
  clear hpx hpy infoPx infoPy
  generalize (en7 x).toArray = ex at *
  generalize (en7 y).toArray = ey at *
  go_enter Tryz.func22, Tryz.ntmps22
  go_wp2
  generalize (w.alloc (.cells ex 56)).alloc (.cells ey 56) = W2 at *
  refine wp_region_held_drew (S := fun w2 => Ud W2 w2) (by kernel_rfl) ((Ud.refl W2).drew) (fun hS => ?_)
  refine wpAnyH_take (i := 0) (oi := { dst := some 5, op := Go.Op.fieldAddr 56 (Go.Operand.tmp 2) 0, type := 0, pos := "key.go:86", after := #[], guard := none }) (v := .pointer (some ⟨w.heap.size, 0, none⟩)) rfl (by kernel_rfl) (by kernel_rfl) (by kernel_rfl) (fun _ _ _ h => h) (Or.inl ⟨by kernel_rfl, ?_⟩) hS ?_
  · intro w5 hSw
    go_simp
  simp only [Act.put, List.setIfInBounds_toArray, List.set_cons_zero, List.set_cons_succ]
  refine wpAnyH_take (i := 1) (oi := { dst := some 6, op := Go.Op.load 9 (Go.Operand.tmp 5), type := 9, pos := "key.go:86", after := #[{ on := 0, ground := Go.Ground.data }], guard := none }) (v := .string x0) rfl (by kernel_rfl) (by kernel_rfl) (by kernel_rfl) (fun _ _ _ h => h) (Or.inl ⟨by kernel_rfl, ?_⟩) hS ?_
  · intro w5 hSw
    have hq := hSw.cell HC.out.1
    go_simp
  simp only [Act.put, List.setIfInBounds_toArray, List.set_cons_zero, List.set_cons_succ]
  refine wpAnyH_take (i := 2) (oi := { dst := some 7, op := Go.Op.fieldAddr 56 (Go.Operand.tmp 3) 0, type := 0, pos := "key.go:86", after := #[], guard := none }) (v := .pointer (some ⟨(w.heap.size + 1), 0, none⟩)) rfl (by kernel_rfl) (by kernel_rfl) (by kernel_rfl) (fun _ _ _ h => h) (Or.inl ⟨by kernel_rfl, ?_⟩) hS ?_
  · intro w5 hSw
    go_simp
  simp only [Act.put, List.setIfInBounds_toArray, List.set_cons_zero, List.set_cons_succ]
  refine wpAnyH_take (i := 3) (oi := { dst := some 8, op := Go.Op.load 9 (Go.Operand.tmp 7), type := 9, pos := "key.go:86", after := #[{ on := 2, ground := Go.Ground.data }], guard := none }) (v := .string y0) rfl (by kernel_rfl) (by kernel_rfl) (by kernel_rfl) (fun _ _ _ h => h) (Or.inl ⟨by kernel_rfl, ?_⟩) hS ?_
  · intro w5 hSw
    have hq := hSw.cell HC.out.2.1
    go_simp
  simp only [Act.put, List.setIfInBounds_toArray, List.set_cons_zero, List.set_cons_succ]
  refine wpAnyH_take (i := 5) (oi := { dst := some 10, op := Go.Op.fieldAddr 56 (Go.Operand.tmp 2) 2, type := 0, pos := "key.go:86", after := #[], guard := none }) (v := .pointer (some ⟨w.heap.size, 2, none⟩)) rfl (by kernel_rfl) (by kernel_rfl) (by kernel_rfl) (fun _ _ _ h => h) (Or.inl ⟨by kernel_rfl, ?_⟩) hS ?_
  · intro w5 hSw
    go_simp
  simp only [Act.put, List.setIfInBounds_toArray, List.set_cons_zero, List.set_cons_succ]
  refine wpAnyH_take (i := 6) (oi := { dst := some 11, op := Go.Op.load 54 (Go.Operand.tmp 10), type := 54, pos := "key.go:86", after := #[{ on := 5, ground := Go.Ground.data }], guard := none }) (v := .agg (pcx).toArray) rfl (by kernel_rfl) (by kernel_rfl) (by kernel_rfl) (fun _ _ _ h => h) (yieldsIf_load_mid (by kernel_rfl) _ _ rfl (w.heap.size) 2 rfl (pcx) _ (fun w5 hSw => range_up HP.out.1 hSw.1) Tryz.underlying54 rfl HX.out.1) hS ?_
  simp only [Act.put, List.setIfInBounds_toArray, List.set_cons_zero, List.set_cons_succ]
  refine wpAnyH_take (i := 7) (oi := { dst := some 12, op := Go.Op.fieldAddr 56 (Go.Operand.tmp 3) 2, type := 0, pos := "key.go:86", after := #[], guard := none }) (v := .pointer (some ⟨(w.heap.size + 1), 2, none⟩)) rfl (by kernel_rfl) (by kernel_rfl) (by kernel_rfl) (fun _ _ _ h => h) (Or.inl ⟨by kernel_rfl, ?_⟩) hS ?_
  · intro w5 hSw
    go_simp
  simp only [Act.put, List.setIfInBounds_toArray, List.set_cons_zero, List.set_cons_succ]
  refine wpAnyH_take (i := 8) (oi := { dst := some 13, op := Go.Op.load 54 (Go.Operand.tmp 12), type := 54, pos := "key.go:86", after := #[{ on := 7, ground := Go.Ground.data }], guard := none }) (v := .agg (pcy).toArray) rfl (by kernel_rfl) (by kernel_rfl) (by kernel_rfl) (fun _ _ _ h => h) (yieldsIf_load_mid (by kernel_rfl) _ _ rfl ((w.heap.size + 1)) 2 rfl (pcy) _ (fun w5 hSw => range_up HP.out.2 hSw.1) Tryz.underlying54 rfl HX.out.2) hS ?_
  simp only [Act.put, List.setIfInBounds_toArray, List.set_cons_zero, List.set_cons_succ]
  refine wpAnyH_take (i := 10) (oi := { dst := some 15, op := Go.Op.fieldAddr 56 (Go.Operand.tmp 2) 1, type := 0, pos := "key.go:86", after := #[], guard := none }) (v := .pointer (some ⟨w.heap.size, 1, none⟩)) rfl (by kernel_rfl) (by kernel_rfl) (by kernel_rfl) (fun _ _ _ h => h) (Or.inl ⟨by kernel_rfl, ?_⟩) hS ?_
  · intro w5 hSw
    go_simp
  simp only [Act.put, List.setIfInBounds_toArray, List.set_cons_zero, List.set_cons_succ]
  refine wpAnyH_take (i := 11) (oi := { dst := some 16, op := Go.Op.load 9 (Go.Operand.tmp 15), type := 9, pos := "key.go:86", after := #[{ on := 10, ground := Go.Ground.data }], guard := none }) (v := .string x1) rfl (by kernel_rfl) (by kernel_rfl) (by kernel_rfl) (fun _ _ _ h => h) (Or.inl ⟨by kernel_rfl, ?_⟩) hS ?_
  · intro w5 hSw
    have hq := hSw.cell HC.out.2.2.1
    go_simp
  simp only [Act.put, List.setIfInBounds_toArray, List.set_cons_zero, List.set_cons_succ]
  refine wpAnyH_take (i := 12) (oi := { dst := some 17, op := Go.Op.fieldAddr 56 (Go.Operand.tmp 3) 1, type := 0, pos := "key.go:86", after := #[], guard := none }) (v := .pointer (some ⟨(w.heap.size + 1), 1, none⟩)) rfl (by kernel_rfl) (by kernel_rfl) (by kernel_rfl) (fun _ _ _ h => h) (Or.inl ⟨by kernel_rfl, ?_⟩) hS ?_
  · intro w5 hSw
    go_simp
  simp only [Act.put, List.setIfInBounds_toArray, List.set_cons_zero, List.set_cons_succ]
  refine wpAnyH_take (i := 13) (oi := { dst := some 18, op := Go.Op.load 9 (Go.Operand.tmp 17), type := 9, pos := "key.go:86", after := #[{ on := 12, ground := Go.Ground.data }], guard := none }) (v := .string y1) rfl (by kernel_rfl) (by kernel_rfl) (by kernel_rfl) (fun _ _ _ h => h) (Or.inl ⟨by kernel_rfl, ?_⟩) hS ?_
  · intro w5 hSw
    have hq := hSw.cell HC.out.2.2.2
    go_simp
  simp only [Act.put, List.setIfInBounds_toArray, List.set_cons_zero, List.set_cons_succ]
  refine wpAnyH_ready (rs := [4]) (by kernel_rfl) (by simp) ?_
  refine AllReadyH.cons (o := { dst := some 9, op := Go.Op.call { callee := Go.Callee.value (Go.Operand.func 48), args := #[Go.Operand.tmp 6, Go.Operand.tmp 8], argTypes := #[9, 9] }, type := 3, pos := "key.go:86", after := #[{ on := 1, ground := Go.Ground.data }, { on := 3, ground := Go.Ground.data }], guard := none }) rfl (fun K hK => ?_) AllReadyH.nil
  rw [if_pos (by kernel_rfl)]
  go_simp
  refine (HO0 _).out.mono ?_
  rintro e v1 ⟨rfl, u1⟩
  obtain rfl := u1.symm
  dsimp only
  refine hK.out _ _ hS (fun hS1 => ?_)
  clear hK hS
  refine wpAnyH_ready (rs := [9]) (by kernel_rfl) (by simp) ?_
  refine AllReadyH.cons (o := { dst := some 14, op := Go.Op.call { callee := Go.Callee.value (Go.Operand.func 49), args := #[Go.Operand.tmp 11, Go.Operand.tmp 13], argTypes := #[54, 54] }, type := 3, pos := "key.go:86", after := #[{ on := 6, ground := Go.Ground.data }, { on := 8, ground := Go.Ground.data }, { on := 4, ground := Go.Ground.chain }], guard := none }) rfl (fun K hK => ?_) AllReadyH.nil
  rw [if_pos (by kernel_rfl)]
  go_simp
  refine (HOP _ (HU0.out.trans hS1)).out.mono ?_
  rintro e v2 ⟨rfl, u2⟩
  dsimp only
  refine hK.out _ _ (hS1.trans u2) (fun hS2 => ?_)
  clear hK hS1
  refine wpAnyH_ready (rs := [14]) (by kernel_rfl) (by simp) ?_
  refine AllReadyH.cons (o := { dst := some 19, op := Go.Op.call { callee := Go.Callee.value (Go.Operand.func 48), args := #[Go.Operand.tmp 16, Go.Operand.tmp 18], argTypes := #[9, 9] }, type := 3, pos := "key.go:86", after := #[{ on := 11, ground := Go.Ground.data }, { on := 13, ground := Go.Ground.data }, { on := 9, ground := Go.Ground.chain }], guard := none }) rfl (fun K hK => ?_) AllReadyH.nil
  rw [if_pos (by kernel_rfl)]
  go_simp
  refine (HO1 _).out.mono ?_
  rintro e v3 ⟨rfl, u3⟩
  obtain rfl := u3.symm
  dsimp only
  refine hK.out _ _ hS2 (fun hS3 => ?_)
  clear hK hS2
  refine wpAnyH_ready (rs := [15]) (by kernel_rfl) (by simp) ?_
  refine AllReadyH.cons (o := { dst := some 20, op := Go.Op.buildSlice 128 3 #[(0, Go.Operand.tmp 9), (1, Go.Operand.tmp 14), (2, Go.Operand.tmp 19)], type := 128, pos := "key.go:86", after := #[{ on := 4, ground := Go.Ground.data }, { on := 9, ground := Go.Ground.data }, { on := 14, ground := Go.Ground.data }], guard := none }) rfl (fun K hK => ?_) AllReadyH.nil
  rw [if_pos (by kernel_rfl)]
  go_simp
  refine hK.out _ _ (hS3.alloc _) (fun hS4 => ?_)
  clear hK hS3
  refine wpAnyH_ready (rs := [16]) (by kernel_rfl) (by simp) ?_
  refine AllReadyH.cons (o := { dst := some 21, op := Go.Op.call { callee := Go.Callee.value (Go.Operand.func 47), args := #[Go.Operand.tmp 20], argTypes := #[128] }, type := 3, pos := "key.go:86", after := #[{ on := 15, ground := Go.Ground.data }, { on := 14, ground := Go.Ground.chain }], guard := none }) rfl (fun K hK => ?_) AllReadyH.nil
  rw [if_pos (by kernel_rfl)]
  go_simp
  refine (HO3 _ _ (by rw [World.cell?_alloc_at _ _ _ _ rfl]; rfl) (by rw [World.cell?_alloc_at _ _ _ _ rfl]; rfl) (by rw [World.cell?_alloc_at _ _ _ _ rfl]; rfl)).out.mono ?_
  rintro e v4 ⟨rfl, u4⟩
  obtain rfl := u4.symm
  dsimp only
  refine hK.out _ _ hS4 (fun hS5 => ?_)
  clear hK hS4
  refine wpAnyH_ready (rs := [17]) (by kernel_rfl) (by simp) ?_
  refine AllReadyH.cons (o := { dst := some 4, op := Go.Op.assign (Go.Operand.tmp 21), type := 3, pos := "key.go:86", after := #[{ on := 16, ground := Go.Ground.data }, { on := 16, ground := Go.Ground.chain }, { on := 0, ground := Go.Ground.phase }, { on := 1, ground := Go.Ground.phase }, { on := 2, ground := Go.Ground.phase }, { on := 3, ground := Go.Ground.phase }, { on := 4, ground := Go.Ground.phase }, { on := 5, ground := Go.Ground.phase }, { on := 6, ground := Go.Ground.phase }, { on := 7, ground := Go.Ground.phase }, { on := 8, ground := Go.Ground.phase }, { on := 9, ground := Go.Ground.phase }, { on := 10, ground := Go.Ground.phase }, { on := 11, ground := Go.Ground.phase }, { on := 12, ground := Go.Ground.phase }, { on := 13, ground := Go.Ground.phase }, { on := 14, ground := Go.Ground.phase }, { on := 15, ground := Go.Ground.phase }, { on := 16, ground := Go.Ground.phase }], guard := none }) rfl (fun K hK => ?_) AllReadyH.nil
  rw [if_pos (by kernel_rfl)]
  go_simp
  refine hK.out _ _ hS5 (fun hS6 => ?_)
  clear hK hS5
  refine wpAnyH_done (by kernel_rfl) ?_ _
  have H4 := Hid.of hS6
  clear hS6
  go_wp2
  go_ret
  rw [HR.out]
  exact ⟨rfl, HU0.out.trans H4.out⟩
end Go.Proofs.YtnciglpdjpckiaaGreatDoor
