import Derived.Test.YtdlfkdehfenemaaCd
namespace Go.Proofs.Ytdlfkdehfenemaa
open Go.RowKit Go.Conc TextNum
theorem ow_one (w : World) (c : UInt8) : Ow (w.alloc (.cells #[.int .u8 (c.toNat : Int)] 5)) w.heap.size (.slice (some ⟨w.heap.size, 0, none⟩) 1 1) [c] :=
  ⟨rfl, .inr ⟨w.heap.size, 1, #[.int .u8 (c.toNat : Int)], rfl, Nat.le_refl _, heap_alloc_new w _, Nat.le_refl _, by simp [maxLen], rfl, rfl⟩⟩
/-- what waits on a lane behind n messages -/
def fl (n : Nat) : List (List UInt8) := (List.range (min n 64)).map fun k => [UInt8.ofNat k]
def FA (x y : List (List UInt8)) : AN := ⟨0, [], [(x, false), (y, false)], []⟩
theorem fl_len (n : Nat) : (fl n).length = min n 64 := by simp [fl]
theorem FA_send0 (x y : List (List UInt8)) (d : List UInt8) : SendA (FA x y) 0 d = FA (if x.length < 64 then x ++ [d] else x) y := by
  unfold SendA nextA sendA postA putA FA comeA
  by_cases h : x.length < 64
  · simp [List.modify, h]
  · simp [List.modify, h]
theorem FA_send1 (x y : List (List UInt8)) (d : List UInt8) : SendA (FA x y) 1 d = FA x (if y.length < 64 then y ++ [d] else y) := by
  unfold SendA nextA sendA postA putA FA comeA
  by_cases h : y.length < 64
  · simp [List.modify, h]
  · simp [List.modify, h]
theorem FA_wait0 (d : List UInt8) (x y : List (List UInt8)) (n : Nat) : awA n (FA (d :: x) y) [0] = ((0, d, 0), FA x y) := by
  rw [awA_some (i := 0) (by simp [hasA, FA])]
  simp [firstA, popA, FA, List.modify]
theorem FA_wait1 (d : List UInt8) (x y : List (List UInt8)) (n : Nat) : awA n (FA x (d :: y)) [1] = ((1, d, 0), FA x y) := by
  rw [awA_some (i := 1) (by simp [hasA, FA])]
  simp [firstA, popA, FA, List.modify]
theorem fl_next (n : Nat) : (if (fl n).length < 64 then fl n ++ [[UInt8.ofNat n]] else fl n) = fl (n + 1) := by
  rw [fl_len]
  by_cases h : min n 64 < 64
  · rw [if_pos h]
    unfold fl
    rw [show min (n + 1) 64 = min n 64 + 1 by omega, List.range_succ, List.map_append, show min n 64 = n by omega]
    rfl
  · rw [if_neg h]
    unfold fl
    rw [show min (n + 1) 64 = 64 by omega, show min n 64 = 64 by omega]
theorem FA0 : (FA (fl 0) []) = ⟨0, [], List.replicate 2 ([], false), []⟩ := rfl
/-- what is left of sixty-four behind k -/
def rs (k : Nat) : List (List UInt8) := (List.range' k (65 - k)).map fun k => if k = 64 then [200] else [UInt8.ofNat k]
theorem fl_64 (e : Nat) : fl (64 + e) = [0] :: (List.range' 1 63).map fun k => [UInt8.ofNat k] := by
  unfold fl
  rw [show min (64 + e) 64 = 64 by omega]
  decide
theorem rs_1 : (List.range' 1 63).map (fun k => [UInt8.ofNat k]) ++ [[200]] = rs 1 := by decide
theorem rs_step {k : Nat} (h : k < 64) : rs k = [UInt8.ofNat k] :: rs (k + 1) := by
  unfold rs
  rw [show 65 - k = (65 - (k + 1)) + 1 by omega, List.range'_succ, List.map_cons, if_neg (by omega)]
theorem rs_64 : rs 64 = [200] :: rs 65 := by decide
theorem ow_shape1 {w : World} {B : Nat} {v : Value} {c : UInt8} (h : Ow w B v [c]) : ∃ g cap, v = .slice (some ⟨g, 0, none⟩) 1 cap ∧ 1 ≤ cap := by
  rcases h.2 with ⟨_, h0⟩ | ⟨g, cap, cur, rfl, _, _, hc, _⟩
  · simp at h0
  · exact ⟨g, cap, rfl, hc⟩
set_option maxRecDepth 100000 in
set_option maxHeartbeats 1000000 in
theorem LaneFills_walk (w : World) (z : Int) : Calls Try.prog 5 #[.int .i64 z] w fun e w' => e = .returned (.bool true) ∧ Up w w' := by
  have hB := below_walk w z 70 (by omega) (by omega)
  go_enter Try.func5, Try.ntmps5
  go_wp2_with fail
  refine hB.mono ?_
  rintro e w1 ⟨x, rfl, hx, rfl⟩
  clear hB
  have hN := New_yes w1 2 nilS [] (by omega) (by omega) (fts_nil w1) rfl
  dsimp only
  go_wp2_with fail
  refine hN.mono ?_
  rintro e w2 ⟨S, rfl, h1, h2, h3, h4, h5, h6, _⟩
  have HJ0 := Hid.of (LJ.new h1 h2 (h3.trans FA0.symm) h4 h5 h6)
  clear h1 h2 h3 h4 h5 h6 hN
  obtain ⟨nb, hnb⟩ : ∃ nb, S.nb = nb := ⟨_, rfl⟩
  rw [hnb]
  have HNB := Hid.of (And.intro hnb trivial)
  clear hnb
  dsimp only
  go_wp2_with (go_at_call 13; refine (num_walk _ _).mono ?_; rintro _ w9 ⟨rfl, h9⟩; obtain rfl := h9.symm; clear h9; dsimp only)
  go_loopw [6, 7] (fun v6 _ wr => ∃ i : Nat, v6 = .int .i64 (i : Int) ∧ i ≤ 64 + x ∧ Hid (∃ S, LJ w1 wr S (FA (fl i) []) i ∧ S.nb = nb)) (fun v6 _ _ => 64 + x - (intOf v6).toNat)
  case atStart => exact ⟨0, rfl, by omega, Hid.of ⟨S, HJ0.out, HNB.out.1⟩⟩
  case round =>
    clear HJ0 HNB
    obtain ⟨i, rfl, hi, hR⟩ := hrel
    obtain ⟨wx, hwx⟩ : ∃ wx, wx = wr := ⟨_, rfl⟩
    subst hwx
    have hxw : IntKind.i64.wrap (64 + (x : Int)) = 64 + (x : Int) := by rw [IntKind.wrap_i64]; omega
    by_cases hlt : i < 64 + x
    · have hltz : (i : Int) < 64 + (x : Int) := by omega
      have hiw : IntKind.i64.wrap ((i : Int) + 1) = (i : Int) + 1 := by rw [IntKind.wrap_i64]; omega
      have hbw : IntKind.u8.wrap (i : Int) = (i : Int) := by simp only [IntKind.wrap, IntKind.signed, IntKind.bits]; simp; omega
      obtain ⟨S1, hJ, hnb⟩ := hR.out
      have e1 : ((UInt8.ofNat i).toNat : Int) = (i : Int) := by rw [UInt8.toNat_ofNat', Nat.mod_eq_of_lt (by omega)]
      have HO := Hid.of (ow_one wx (UInt8.ofNat i))
      rw [e1] at HO
      have HU := Hid.of ((Up.refl wx).alloc (.cells #[.int .u8 (i : Int)] 5))
      have HJ := Hid.of hJ
      have HNB := Hid.of (And.intro hnb trivial)
      clear hR hJ hnb e1
      go_wp2_with fail
      generalize wx.alloc (.cells #[.int .u8 (i : Int)] 5) = W1 at *
      have hS := (HJ.out.up' HU.out).send 0 (.slice (some ⟨wx.heap.size, 0, none⟩) 1 1) [UInt8.ofNat i] rfl (Ow.sb HO.out) (fun g hg => row_tag HO.out hg) (by simp) (by simp [FA]) (by omega)
      rw [HNB.out.1] at hS
      refine hS.mono ?_
      rintro e w3 ⟨rfl, S2, h3⟩
      have HJ2 := Hid.of (show ∃ S, LJ w1 w3 S (FA (fl (i + 1)) []) (i + 1) ∧ S.nb = nb from ⟨S2, by
        have h4 := (HJ.out.up' HU.out).st h3
        rw [FA_send0, fl_next] at h4
        exact h4, h3.nb.trans HNB.out.1⟩)
      clear h3 hS HJ HNB HO HU
      dsimp only
      go_wp2_with (go_at_call 13; refine (num_walk _ _).mono ?_; rintro _ w9 ⟨rfl, h9⟩; obtain rfl := h9.symm; clear h9; dsimp only)
      go_roundw
      case rel => exact ⟨i + 1, by simp, by omega, HJ2⟩
      case measure => simp [intOf]; omega
    · have hltz : ¬ ((i : Int) < 64 + (x : Int)) := by omega
      obtain rfl : i = 64 + x := by omega
      obtain ⟨S1, hJ, hnb⟩ := hR.out
      rw [fl_64] at hJ
      have HJ := Hid.of hJ
      have HNB := Hid.of (And.intro hnb trivial)
      clear hR hJ hnb
      go_wp2_with fail
      have hW := HJ.out.wait 0 0 rfl (by omega) (by simp [FA]) (by omega)
      rw [HNB.out.1, FA_wait0] at hW
      refine hW.mono ?_
      rintro e w3 ⟨mv, rfl, om, S2, h3⟩
      dsimp only at om h3 ⊢
      have HJ2 := Hid.of (HJ.out.st h3)
      have HM := Hid.of om
      have HNB2 := Hid.of (And.intro (h3.nb.trans HNB.out.1) trivial)
      clear h3 hW HJ HNB om
      go_wp2_with fail
      have HO := Hid.of (ow_one w3 200)
      have HU := Hid.of ((Up.refl w3).alloc (.cells #[.int .u8 ((200 : UInt8).toNat : Int)] 5))
      rw [show (((200 : UInt8).toNat : Int)) = (200 : Int) from rfl] at HO HU
      generalize w3.alloc (.cells #[.int .u8 (200 : Int)] 5) = W1 at *
      have hS := (HJ2.out.up' HU.out).send 0 (.slice (some ⟨w3.heap.size, 0, none⟩) 1 1) [200] rfl (Ow.sb HO.out) (fun g hg => row_tag HO.out hg) (by simp) (by simp [FA]) (by omega)
      rw [HNB2.out.1] at hS
      refine hS.mono ?_
      rintro e w4 ⟨rfl, S3, h9⟩
      have HJ3 := Hid.of ((HJ2.out.up' HU.out).st h9)
      rw [FA_send0, if_pos (by simp), rs_1] at HJ3
      have HNB3 := Hid.of (And.intro (h9.nb.trans HNB2.out.1) trivial)
      have HM := Hid.of (h9.ow (HJ2.out.up' HU.out).ok (ow_up HM.out HU.out))
      clear h9 hS HJ2 HNB2 HO HU
      dsimp only
      go_wp2_with fail
      have HO := Hid.of (ow_one w4 201)
      have HU := Hid.of ((Up.refl w4).alloc (.cells #[.int .u8 ((201 : UInt8).toNat : Int)] 5))
      rw [show (((201 : UInt8).toNat : Int)) = (201 : Int) from rfl] at HO HU
      generalize w4.alloc (.cells #[.int .u8 (201 : Int)] 5) = W1 at *
      have hS := (HJ3.out.up' HU.out).send 1 (.slice (some ⟨w4.heap.size, 0, none⟩) 1 1) [201] rfl (Ow.sb HO.out) (fun g hg => row_tag HO.out hg) (by simp) (by simp [FA]) (by omega)
      rw [HNB3.out.1] at hS
      refine hS.mono ?_
      rintro e w5 ⟨rfl, S4, h9⟩
      have HJ4 := Hid.of ((HJ3.out.up' HU.out).st h9)
      rw [FA_send1, if_pos (by simp), List.nil_append] at HJ4
      have HNB4 := Hid.of (And.intro (h9.nb.trans HNB3.out.1) trivial)
      have HM := Hid.of (h9.ow (HJ3.out.up' HU.out).ok (ow_up HM.out HU.out))
      clear h9 hS HJ3 HNB3 HO HU
      dsimp only
      go_wp2_with fail
      have hW := HJ4.out.wait 1 0 rfl (by omega) (by simp [FA]) (by omega)
      rw [HNB4.out.1, FA_wait1] at hW
      refine hW.mono ?_
      rintro e w6 ⟨mv2, rfl, om, S5, h9⟩
      dsimp only at om h9 ⊢
      have HJ5 := Hid.of (HJ4.out.st h9)
      have hM2 := om
      have hM1 := h9.ow HJ4.out.ok HM.out
      have HNB5 := Hid.of (And.intro (h9.nb.trans HNB4.out.1) trivial)
      clear h9 hW HJ4 HNB4 om HM
      obtain ⟨g1, k1, rfl, hk1⟩ := ow_shape1 hM1
      obtain ⟨g2, k2, rfl, hk2⟩ := ow_shape1 hM2
      have x1 := (ow_cells hM1 (i := 0) (by simp)).1
      have x2 := (ow_cells hM2 (i := 0) (by simp)).1
      have y1 : (1 : Int) ≤ (k1 : Int) := by omega
      have y2 : (1 : Int) ≤ (k2 : Int) := by omega
      simp only [List.getElem_cons_zero] at x1 x2
      clear hM1 hM2
      go_wp2_with (go_at_call 13; refine (num_walk _ _).mono ?_; rintro _ w9 ⟨rfl, h9⟩; obtain rfl := h9.symm; clear h9; dsimp only)
      go_loopw [14, 15, 16, 17] (fun v14 _ _ _ wr => ∃ k : Nat, v14 = .int .i64 (k : Int) ∧ 1 ≤ k ∧ k ≤ 65 ∧ Hid (∃ S, LJ w1 wr S (FA (rs k) []) 300 ∧ S.nb = nb)) (fun v14 _ _ _ _ => 65 - (intOf v14).toNat)
      case atStart => exact ⟨1, rfl, by omega, by omega, Hid.of ⟨S5, ⟨HJ5.out.ok, HJ5.out.so, HJ5.out.ab, by have := HJ5.out.mn; omega, HJ5.out.fr, HJ5.out.up⟩, HNB5.out.1⟩⟩
      case round =>
        clear HJ5 HNB5 x1 x2
        obtain ⟨k, rfl, hk0, hk, hR⟩ := hrel
        obtain ⟨wx, hwx⟩ : ∃ wx, wx = wr := ⟨_, rfl⟩
        subst hwx
        obtain ⟨S6, hJ, hnb⟩ := hR.out
        have HJ := Hid.of hJ
        have HNB := Hid.of (And.intro hnb trivial)
        clear hR hJ hnb
        by_cases hlt : k ≤ 64
        · have hltz : (k : Int) ≤ 64 := by omega
          have hkw : IntKind.i64.wrap ((k : Int) + 1) = (k : Int) + 1 := by rw [IntKind.wrap_i64]; omega
          have hbw : IntKind.u8.wrap (k : Int) = (k : Int) := by simp only [IntKind.wrap, IntKind.signed, IntKind.bits]; simp; omega
          by_cases h64 : k = 64
          · subst h64
            go_wp2_with fail
            have hW := HJ.out.wait 0 0 rfl (by omega) (by simp [FA]) (by omega)
            rw [HNB.out.1, rs_64, FA_wait0] at hW
            refine hW.mono ?_
            rintro e w7 ⟨mv3, rfl, om, S7, h9⟩
            dsimp only at om h9 ⊢
            have HJ7 := Hid.of (show ∃ S, LJ w1 w7 S (FA (rs 65) []) 300 ∧ S.nb = nb from ⟨S7, (show LJ w1 w7 S7 (FA (rs 65) []) (300 + 0) from by
              have h10 := HJ.out
              rw [rs_64] at h10
              exact h10.st h9), h9.nb.trans HNB.out.1⟩)
            obtain ⟨g3, k3, rfl, hk3⟩ := ow_shape1 om
            have x3 := (ow_cells om (i := 0) (by simp)).1
            have y3 : (1 : Int) ≤ (k3 : Int) := by omega
            simp only [List.getElem_cons_zero] at x3
            clear h9 hW HJ HNB om
            go_wp2_with (go_at_call 13; refine (num_walk _ _).mono ?_; rintro _ w9 ⟨rfl, h9⟩; obtain rfl := h9.symm; clear h9; dsimp only)
            go_roundw
            case rel => exact ⟨65, by simp, by omega, by omega, HJ7⟩
            case measure => simp [intOf]
          · have h64z : ¬ ((k : Int) = 64) := by omega
            have hrs := rs_step (k := k) (by omega)
            have e1 : ((UInt8.ofNat k).toNat : Int) = (k : Int) := by rw [UInt8.toNat_ofNat', Nat.mod_eq_of_lt (by omega)]
            have HRS := Hid.of (And.intro hrs e1)
            clear hrs e1
            go_wp2_with fail
            have hW := HJ.out.wait 0 0 rfl (by omega) (by simp [FA]) (by omega)
            rw [HNB.out.1, HRS.out.1, FA_wait0] at hW
            refine hW.mono ?_
            rintro e w7 ⟨mv3, rfl, om, S7, h9⟩
            dsimp only at om h9 ⊢
            have HJ7 := Hid.of (show ∃ S, LJ w1 w7 S (FA (rs (k + 1)) []) 300 ∧ S.nb = nb from ⟨S7, (show LJ w1 w7 S7 (FA (rs (k + 1)) []) (300 + 0) from by
              have h10 := HJ.out
              rw [HRS.out.1] at h10
              exact h10.st h9), h9.nb.trans HNB.out.1⟩)
            obtain ⟨g3, k3, rfl, hk3⟩ := ow_shape1 om
            have x3 := (ow_cells om (i := 0) (by simp)).1
            have y3 : (1 : Int) ≤ (k3 : Int) := by omega
            simp only [List.getElem_cons_zero] at x3
            rw [HRS.out.2] at x3
            clear h9 hW HJ HNB om HRS
            go_wp2_with (go_at_call 13; refine (num_walk _ _).mono ?_; rintro _ w9 ⟨rfl, h9⟩; obtain rfl := h9.symm; clear h9; dsimp only)
            go_roundw
            case rel => exact ⟨k + 1, by simp, by omega, by omega, HJ7⟩
            case measure => simp [intOf]; omega
        · have hltz : ¬ ((k : Int) ≤ 64) := by omega
          obtain rfl : k = 65 := by omega
          go_wp2_with fail
          obtain ⟨l0, hl0, _, hm0⟩ := abs_get (i := 0) HJ.out.ab rfl
          have hWt := Waiting_yes wx S6 0 l0 HJ.out.ok hl0
          have hlen : l0.ms.length = 0 := by
            have := congrArg List.length hm0
            simpa [rs] using this
          rw [HNB.out.1, hlen] at hWt
          refine hWt.mono ?_
          rintro e w7 ⟨rfl, rfl⟩
          have hNw := Now_walk w7 S6 HJ.out.ok
          rw [HNB.out.1, HJ.out.now] at hNw
          dsimp only
          go_wp2_with (first | (go_at_call 13; refine (num_walk _ _).mono ?_; rintro _ _ ⟨rfl, rfl⟩; dsimp only) | (go_at_call 16; refine hNw.mono ?_; rintro _ _ ⟨rfl, rfl⟩; dsimp only [FA]))
          go_ret
          exact ⟨rfl, HJ.out.up⟩
end Go.Proofs.Ytdlfkdehfenemaa
