import Derived.Test.YtaobnnlcfefodaaGreatDoorBe
namespace Go.Proofs.YtaobnnlcfefodaaGreatDoor
open Go.RowKit TextNum

theorem b64_step (l : List UInt8) (i : Nat) (h3 : i % 3 = 0) (hi : i ≤ l.length) : b64E (l.take (i + 3)) = b64E (l.take i) ++ b64E ((l.drop i).take 3) := by
  rw [← b64E_append _ _ (by rw [List.length_take, Nat.min_eq_left hi]; exact h3), ← List.take_add]
/-- a piece of a list that is read -/
theorem sl_piece {w : World} {l : List UInt8} {b off c : Nat} (hc : ∀ i (h : i < l.length), w.cell? ⟨b, off + i, none⟩ = some (.int .u8 (l[i].toNat : Int))) (hb : b < w.heap.size) (hlc : l.length ≤ c) (i n : Nat) (hin : i + n ≤ l.length) :
    Sl w (.slice (some ⟨b, off + i, none⟩) n (c - i)) ((l.drop i).take n) := by
  have hlen : ((l.drop i).take n).length = n := by simp; omega
  refine ⟨_, c - i, by rw [hlen], by rw [hlen]; omega, .inr ⟨b, off + i, rfl, hb, fun j hj => ?_⟩⟩
  rw [hlen] at hj
  have := hc (i + j) (by omega)
  rw [← Nat.add_assoc] at this
  rw [this]
  simp

set_option maxRecDepth 100000 in
set_option maxHeartbeats 1000000 in
theorem EncodeBase64_walk (v : Value) (l : List UInt8) (w : World) (hT : TabL w) (hS : Sl w v l) (hl : l.length ≤ 1099511627776) :
    Calls Tryz.prog 22 #[v] w fun e w' => e = .returned (vs (b64E l)) ∧ Up w w' := by
  obtain ⟨a, c, rfl, hlc, hS⟩ := hS
  have HT := Hid.of (And.intro hT hS)
  clear hT hS
  go_enter Tryz.func22, Tryz.ntmps22
  go_wp2_with (with_reducible show wpList _ _ _ ({ dst := _, op := Op.makeSlice 23 _ _, type := _, pos := _, after := _, guard := _ } :: _) _ _; refine Shut.out ?_)
  show wpList _ _ _ _ _ _
  refine wpList_mk rfl _ _ rfl _ _ _ ((l.length + 2) / 3 * 4) rfl rfl (by omega) (by omega) ?_
  intro w1 h1 u1
  simp only [Act.put, List.setIfInBounds_toArray, List.set_cons_zero, List.set_cons_succ]
  have H1 := Hid.of (And.intro h1 u1)
  clear h1 u1
  go_wp2
  go_loopw [3, 4] (fun v3 v4 wr => ∃ i : Nat, v4 = .int .i64 (i : Int) ∧ i ≤ l.length + 2 ∧ i % 3 = 0 ∧ Hid (Own wr w.heap.size v3 (b64E (l.take i)) ∧ Up w wr)) (fun _ v4 _ => l.length + 3 - (intOf v4).toNat)
  case atStart => exact ⟨0, rfl, by omega, rfl, H1.out.1, H1.out.2⟩
  case round =>
    obtain ⟨i, rfl, hi, hi3, hI⟩ := hrel
    by_cases hlt : i < l.length
    · rcases HT.out.2 with e | ⟨b, off, rfl, hb, hc⟩
      · subst e; simp at hlt
      · have hlt' : (i : Int) < (l.length : Int) := by omega
        have HX := Hid.of (b64_step l i hi3 (by omega))
        have hlen : (b64E (l.take i)).length + 4 ≤ 140737488355328 := by rw [b64E_length]; simp; omega
        have HL := Hid.of hlen
        clear hlen
        by_cases h3 : i + 3 ≤ l.length
        · have hP := sl_piece hc hb hlc i 3 h3
          have hm : min ((i : Int) + 3) (l.length : Int) = (i : Int) + 3 := by omega
          have HP := Hid.of (hP.up hI.out.2)
          clear hP hc
          go_wp2_with fail
          refine (appendGroup_walk w.heap.size _ _ (b64E (l.take i)) ((l.drop i).take 3) (by simp; omega) (by simp; omega) wr (HT.out.1.up hI.out.2) HT.out.1.lt hI.out.1 HP.out HL.out hI.out.2.size).mono ?_
          rintro e w2 ⟨v', rfl, h2, b2⟩
          dsimp only
          have H2 := Hid.of (And.intro h2 (hI.out.2.step (Nat.le_refl _) b2))
          clear h2 b2
          go_wp2
          go_roundw
          case rel => exact ⟨i + 3, by go_num, by omega, by omega, by rw [HX.out]; exact H2.out.1, H2.out.2⟩
          case measure => simp [intOf]; omega
        · have hP := sl_piece hc hb hlc i (l.length - i) (by omega)
          have hm : min ((i : Int) + 3) (l.length : Int) = (l.length : Int) := by omega
          rw [show (l.drop i).take (l.length - i) = (l.drop i).take 3 by rw [List.take_of_length_le (by simp), List.take_of_length_le (by simp; omega)]] at hP
          have HP := Hid.of (hP.up hI.out.2)
          clear hP hc
          go_wp2_with fail
          refine (appendGroup_walk w.heap.size _ _ (b64E (l.take i)) ((l.drop i).take 3) (by simp; omega) (by simp; omega) wr (HT.out.1.up hI.out.2) HT.out.1.lt hI.out.1 HP.out HL.out hI.out.2.size).mono ?_
          rintro e w2 ⟨v', rfl, h2, b2⟩
          dsimp only
          have H2 := Hid.of (And.intro h2 (hI.out.2.step (Nat.le_refl _) b2))
          clear h2 b2
          go_wp2
          go_roundw
          case rel => exact ⟨i + 3, by go_num, by omega, by omega, by rw [HX.out]; exact H2.out.1, H2.out.2⟩
          case measure => simp [intOf]; omega
    · have HF := Hid.of (show l.take i = l by rw [List.take_of_length_le (by omega)])
      have hcv := conv_sl (Own.sl hI.out.1)
      rw [HF.out] at hcv
      go_wp2
      go_ret
      exact ⟨rfl, hI.out.2⟩
end Go.Proofs.YtaobnnlcfefodaaGreatDoor
