import Derived.Test.YtaphjbcnnkoffaaGreatDoorMe
namespace Go.Proofs.YtaphjbcnnkoffaaGreatDoor
open Go.RowKit Go.Shelf TextNum ModNum
theorem size_str (l : List UInt8) : (⟨l.toArray⟩ : ByteArray).size = l.length := by simp [ByteArray.size]
theorem ahd_sub (c : UInt8) (l : List UInt8) : ∀ x ∈ ahd c l, x ∈ l := fun _ hx => (List.takeWhile_sublist _).subset hx
theorem ahd_len (c : UInt8) (l : List UInt8) : (ahd c l).length ≤ l.length := (List.takeWhile_sublist _).length_le
theorem bhd_len (c : UInt8) (l : List UInt8) : (bhd c l).length ≤ l.length := by
  unfold bhd
  rw [List.length_drop]
  have := (List.dropWhile_sublist (p := fun x => x != c) (l := l)).length_le
  omega
set_option maxRecDepth 100000 in
set_option maxHeartbeats 1000000 in
theorem mayBeElement_walk (s : ByteArray) (hs : s.size ≤ 1048576) (ha : ∀ c ∈ s.data.toList, c.toNat < 128) (w : World) (hG : GR w) : Calls Tryz.prog 112 #[.string s] w fun e w' => e = .returned (.bool (elm s.data.toList)) ∧ Up w w' := by
  have HR : Hid (elm s.data.toList = (!s.data.toList.isEmpty && !pfx [46] s.data.toList && !sfx [46] s.data.toList && !decide ((ahd 46 s.data.toList).map lwr ∈ rsv) && !dbh (ahd 46 s.data.toList) [126])) := rfl
  have HP := Hid.of (Pre_walk s ⟨#[46]⟩ w)
  have HS := Hid.of (Suf_walk s ⟨#[46]⟩ hs w)
  rw [show (⟨#[46]⟩ : ByteArray).data.toList = [46] from rfl] at HP HS
  have HC := Hid.of (Cut_walk s 46 hs w hG.toGM)
  have han : ∀ c ∈ ahd 46 s.data.toList, c.toNat < 128 := fun c hc => ha c (ahd_sub _ _ c hc)
  have hln : (ahd 46 s.data.toList).length ≤ 1048576 := by have := ahd_len 46 s.data.toList; rw [len_of] at this; omega
  have HL := fun w' => Hid.of (Low_walk ⟨(ahd 46 s.data.toList).toArray⟩ (by rw [size_str]; exact hln) han w')
  have HV := fun w' => fun (u : Up w w') => Hid.of (isReserved_walk ⟨((ahd 46 s.data.toList).map lwr).toArray⟩ w' (hG.up u))
  have HD := fun w' => fun (u : Up w w') => Hid.of (digitsBehind_walk ⟨(ahd 46 s.data.toList).toArray⟩ ⟨#[126]⟩ han (by rw [size_str]; exact hln) w' (hG.up u).toGM)
  have he : s.toList.isEmpty = s.data.toList.isEmpty := by rw [Go.Lib.toList_data]
  rw [show (⟨#[126]⟩ : ByteArray).data.toList = [126] from rfl] at HD
  simp only [] at HL HV HD
  clear ha han hln hG
  generalize ahd 46 s.data.toList = nm at *
  generalize bhd 46 s.data.toList = bh at *
  generalize decide (46 ∈ s.data.toList) = bm at *
  generalize nm.map lwr = lw at *
  generalize dgs nm = dg at *
  generalize dbh nm [126] = b5 at *
  generalize decide (lw ∈ rsv) = b4 at *
  generalize sfx [46] s.data.toList = b3 at *
  generalize pfx [46] s.data.toList = b2 at *
  generalize s.data.toList.isEmpty = b1 at *
  generalize elm s.data.toList = rr at *
  cases b1 with
  | true =>
    go_enter Tryz.func112, Tryz.ntmps112
    go_wp2
    go_ret
    rw [HR.out]
    exact ⟨rfl, Up.refl _⟩
  | false =>
    cases b2 with
    | true =>
      go_enter Tryz.func112, Tryz.ntmps112
      go_wp2_with fail
      refine (HP.out).mono ?_
      rintro e w9 ⟨rfl, h9⟩
      obtain rfl := h9.symm
      clear h9
      dsimp only
      go_wp2
      go_ret
      rw [HR.out]
      exact ⟨rfl, Up.refl _⟩
    | false =>
      cases b3 with
      | true =>
        go_enter Tryz.func112, Tryz.ntmps112
        go_wp2_with fail
        refine (HP.out).mono ?_
        rintro e w9 ⟨rfl, h9⟩
        obtain rfl := h9.symm
        clear h9
        dsimp only
        go_wp2_with fail
        refine (HS.out).mono ?_
        rintro e w9 ⟨rfl, h9⟩
        obtain rfl := h9.symm
        clear h9
        dsimp only
        go_wp2
        go_ret
        rw [HR.out]
        exact ⟨rfl, Up.refl _⟩
      | false =>
        go_enter Tryz.func112, Tryz.ntmps112
        go_wp2_with fail
        refine (HP.out).mono ?_
        rintro e w9 ⟨rfl, h9⟩
        obtain rfl := h9.symm
        clear h9
        dsimp only
        go_wp2_with fail
        refine (HS.out).mono ?_
        rintro e w9 ⟨rfl, h9⟩
        obtain rfl := h9.symm
        clear h9
        dsimp only
        go_wp2_with fail
        refine (HC.out).mono ?_
        rintro e w1 ⟨rfl, u1⟩
        have H1 := Hid.of (u1)
        have Hu1 := Hid.of u1
        clear u1
        dsimp only
        go_wp2_with fail
        refine ((HL _).out).mono ?_
        rintro e w2 ⟨rfl, u2⟩
        have H2 := Hid.of (H1.out.trans u2)
        have Hu2 := Hid.of u2
        clear u2
        dsimp only
        go_wp2_with fail
        refine ((HV _ H2.out).out).mono ?_
        rintro e w9 ⟨rfl, h9⟩
        obtain rfl := h9.symm
        clear h9
        dsimp only
        cases b4 with
        | true =>
          go_wp2
          go_ret
          rw [HR.out]
          exact ⟨rfl, H2.out⟩
        | false =>
          go_wp2_with fail
          refine ((HD _ H2.out).out).mono ?_
          rintro e w3 ⟨rfl, u3⟩
          have H3 := Hid.of (H2.out.trans u3)
          have Hu3 := Hid.of u3
          clear u3
          dsimp only
          go_wp2
          go_ret
          rw [HR.out]
          exact ⟨by simp, H3.out⟩
end Go.Proofs.YtaphjbcnnkoffaaGreatDoor
