import Derived.Test.YtfmdaollnjnhgaaDoorNa
namespace Go.Proofs.YtfmdaollnjnhgaaDoor
open Go.RowKit Go.Shelf TextNum ModNum
theorem known_fte : fte [97, 46, 99, 111, 109, 47, 98] [118, 49, 46, 50, 46, 51] = 0 := by decide +kernel
theorem known_key : keyT [97, 46, 99, 111, 109, 47, 98] [118, 49, 46, 50, 46, 51] = [97, 46, 99, 111, 109, 47, 98, 64, 118, 49, 46, 50, 46, 51] := by decide +kernel
theorem known_cmp : cmpV [118, 49, 46, 50, 46, 51] [118, 49, 46, 49, 48, 46, 48] = -1 := by decide +kernel
set_option maxRecDepth 100000 in
theorem known_walk (w : World) (hG : GR w) : Calls Tryd.prog 15 #[] w fun e w' => e = .returned (.bool true) ∧ Up w w' := by
  have HK := Hid.of (Key_walk ⟨#[97, 46, 99, 111, 109, 47, 98]⟩ ⟨#[118, 49, 46, 50, 46, 51]⟩ w hG)
  have HC := fun w' => fun (u : Up w w') => Hid.of (Compare_walk ⟨#[118, 49, 46, 50, 46, 51]⟩ ⟨#[118, 49, 46, 49, 48, 46, 48]⟩ w' (hG.up u).toGM)
  rw [show (⟨#[97, 46, 99, 111, 109, 47, 98]⟩ : ByteArray).data.toList = [97, 46, 99, 111, 109, 47, 98] from rfl, show (⟨#[118, 49, 46, 50, 46, 51]⟩ : ByteArray).data.toList = [118, 49, 46, 50, 46, 51] from rfl, known_fte, known_key] at HK
  rw [show (⟨#[118, 49, 46, 50, 46, 51]⟩ : ByteArray).data.toList = [118, 49, 46, 50, 46, 51] from rfl, show (⟨#[118, 49, 46, 49, 48, 46, 48]⟩ : ByteArray).data.toList = [118, 49, 46, 49, 48, 46, 48] from rfl, known_cmp] at HC
  clear hG
  go_enter Tryd.func15, Tryd.ntmps15
  go_wp2_with fail
  refine (HK.out).mono ?_
  rintro e w1 ⟨rfl, u1⟩
  have H1 := Hid.of (u1)
  have Hu1 := Hid.of u1
  clear u1
  dsimp only
  go_wp2_with fail
  refine ((HC _ H1.out).out).mono ?_
  rintro e w2 ⟨rfl, u2⟩
  have H2 := Hid.of (H1.out.trans u2)
  have Hu2 := Hid.of u2
  clear u2
  dsimp only
  go_wp2
  go_ret
  exact ⟨rfl, H2.out⟩
set_option maxRecDepth 100000 in
set_option maxHeartbeats 4000000 in
theorem orders_walk (a b c : ByteArray) (w : World) (hG : GR w) : Calls Tryd.prog 4 #[.string a, .string b, .string c] w fun e w' => e = .returned (.bool true) ∧ Up w w' := by
  have HX := fun w' => fun (u : Up w w') => Hid.of (Compare_walk a b w' (hG.up u).toGM)
  have HY := fun w' => fun (u : Up w w') => Hid.of (Compare_walk b c w' (hG.up u).toGM)
  have HZ := fun w' => fun (u : Up w w') => Hid.of (Compare_walk a c w' (hG.up u).toGM)
  have HK := fun w' => fun (u : Up w w') => Hid.of (known_walk w' (hG.up u))
  have HR := fun w' => fun (u : Up w w') => Hid.of (Compare_walk a a w' (hG.up u).toGM)
  have HN := fun w' => fun (u : Up w w') => Hid.of (Compare_walk b a w' (hG.up u).toGM)
  have HP := fun w' => fun (u : Up w w') => Hid.of (CheckVersion_walk a w' (hG.up u).toGM)
  have HQ := fun w' => fun (u : Up w w') => Hid.of (CheckVersion_walk b w' (hG.up u).toGM)
  rw [ord_V.refl] at HR
  rw [ord_V.anti a.data.toList b.data.toList] at HN
  have hx := ord_V.val a.data.toList b.data.toList
  have hy := ord_V.val b.data.toList c.data.toList
  have hz := ord_V.val a.data.toList c.data.toList
  have ht := ord_V.tr a.data.toList b.data.toList c.data.toList
  have h0 := fun h1 h2 => ord_V.zero (a := a.data.toList) (b := b.data.toList) (c := c.data.toList) h1 h2
  have hpq : (verE a.data.toList = 0 ∧ verE b.data.toList = 0) ∨ (verE a.data.toList = 0 ∧ verE b.data.toList = 111 ∧ cmpV a.data.toList b.data.toList = 1) ∨ (verE a.data.toList = 111 ∧ verE b.data.toList = 0 ∧ cmpV a.data.toList b.data.toList = -1) ∨ (verE a.data.toList = 111 ∧ verE b.data.toList = 111 ∧ cmpV a.data.toList b.data.toList = 0) := by
    cases ha : ver a.data.toList with
    | none =>
      cases hb : ver b.data.toList with
      | none => exact .inr (.inr (.inr ⟨verE_none ha, verE_none hb, cmpV_nn ha hb⟩))
      | some q => exact .inr (.inr (.inl ⟨verE_none ha, verE_some hb, cmpV_no ha hb⟩))
    | some p =>
      cases hb : ver b.data.toList with
      | none =>
        refine .inr (.inl ⟨verE_some ha, verE_none hb, ?_⟩)
        rw [ord_V.anti b.data.toList a.data.toList, cmpV_no hb ha]
        decide
      | some q => exact .inl ⟨verE_some ha, verE_some hb⟩
  clear hG
  generalize cmpV a.data.toList b.data.toList = x at *
  generalize cmpV b.data.toList c.data.toList = y at *
  generalize cmpV a.data.toList c.data.toList = z at *
  generalize verE a.data.toList = pa at *
  generalize verE b.data.toList = pb at *
  obtain rfl | rfl | rfl := hx
  · obtain rfl | rfl | rfl := hy
    · have hzv : z = -1 := by
        have h1 := ht (by decide) (by decide)
        rcases hz with h | h | h
        · exact h
        · exfalso; have := h1.2 h; omega
        · exfalso; have := h1.1; omega
      subst hzv
      clear ht h0 hz
      obtain ⟨rfl, rfl⟩ | ⟨_, _, h⟩ | ⟨rfl, rfl, _⟩ | ⟨_, _, h⟩ := hpq
      · go_enter Tryd.func4, Tryd.ntmps4
        go_wp2_with fail
        refine ((HX _ (Up.refl _)).out).mono ?_
        rintro e w1 ⟨rfl, u1⟩
        have H1 := Hid.of (u1)
        have Hu1 := Hid.of u1
        clear u1
        dsimp only
        go_wp2_with fail
        refine ((HY _ H1.out).out).mono ?_
        rintro e w2 ⟨rfl, u2⟩
        have H2 := Hid.of (H1.out.trans u2)
        have Hu2 := Hid.of u2
        clear u2
        dsimp only
        go_wp2_with fail
        refine ((HZ _ H2.out).out).mono ?_
        rintro e w3 ⟨rfl, u3⟩
        have H3 := Hid.of (H2.out.trans u3)
        have Hu3 := Hid.of u3
        clear u3
        dsimp only
        go_wp2_with fail
        refine ((HK _ H3.out).out).mono ?_
        rintro e w4 ⟨rfl, u4⟩
        have H4 := Hid.of (H3.out.trans u4)
        have Hu4 := Hid.of u4
        clear u4
        dsimp only
        go_wp2_with fail
        refine ((HR _ H4.out).out).mono ?_
        rintro e w5 ⟨rfl, u5⟩
        have H5 := Hid.of (H4.out.trans u5)
        have Hu5 := Hid.of u5
        clear u5
        dsimp only
        go_wp2_with fail
        refine ((HN _ H5.out).out).mono ?_
        rintro e w6 ⟨rfl, u6⟩
        have H6 := Hid.of (H5.out.trans u6)
        have Hu6 := Hid.of u6
        clear u6
        dsimp only
        go_wp2_with fail
        refine ((HP _ H6.out).out).mono ?_
        rintro e w7 ⟨rfl, u7⟩
        have H7 := Hid.of (H6.out.trans u7)
        have Hu7 := Hid.of u7
        clear u7
        dsimp only
        go_wp2_with fail
        refine ((HQ _ H7.out).out).mono ?_
        rintro e w8 ⟨rfl, u8⟩
        have H8 := Hid.of (H7.out.trans u8)
        have Hu8 := Hid.of u8
        clear u8
        dsimp only
        go_wp2
        go_ret
        exact ⟨rfl, H8.out⟩
      · exfalso; omega
      · go_enter Tryd.func4, Tryd.ntmps4
        go_wp2_with fail
        refine ((HX _ (Up.refl _)).out).mono ?_
        rintro e w1 ⟨rfl, u1⟩
        have H1 := Hid.of (u1)
        have Hu1 := Hid.of u1
        clear u1
        dsimp only
        go_wp2_with fail
        refine ((HY _ H1.out).out).mono ?_
        rintro e w2 ⟨rfl, u2⟩
        have H2 := Hid.of (H1.out.trans u2)
        have Hu2 := Hid.of u2
        clear u2
        dsimp only
        go_wp2_with fail
        refine ((HZ _ H2.out).out).mono ?_
        rintro e w3 ⟨rfl, u3⟩
        have H3 := Hid.of (H2.out.trans u3)
        have Hu3 := Hid.of u3
        clear u3
        dsimp only
        go_wp2_with fail
        refine ((HK _ H3.out).out).mono ?_
        rintro e w4 ⟨rfl, u4⟩
        have H4 := Hid.of (H3.out.trans u4)
        have Hu4 := Hid.of u4
        clear u4
        dsimp only
        go_wp2_with fail
        refine ((HR _ H4.out).out).mono ?_
        rintro e w5 ⟨rfl, u5⟩
        have H5 := Hid.of (H4.out.trans u5)
        have Hu5 := Hid.of u5
        clear u5
        dsimp only
        go_wp2_with fail
        refine ((HN _ H5.out).out).mono ?_
        rintro e w6 ⟨rfl, u6⟩
        have H6 := Hid.of (H5.out.trans u6)
        have Hu6 := Hid.of u6
        clear u6
        dsimp only
        go_wp2_with fail
        refine ((HP _ H6.out).out).mono ?_
        rintro e w7 ⟨rfl, u7⟩
        have H7 := Hid.of (H6.out.trans u7)
        have Hu7 := Hid.of u7
        clear u7
        dsimp only
        go_wp2_with fail
        refine ((HQ _ H7.out).out).mono ?_
        rintro e w8 ⟨rfl, u8⟩
        have H8 := Hid.of (H7.out.trans u8)
        have Hu8 := Hid.of u8
        clear u8
        dsimp only
        go_wp2
        go_ret
        exact ⟨rfl, H8.out⟩
      · exfalso; omega
    · have hzv : z = -1 := by
        have h1 := ht (by decide) (by decide)
        rcases hz with h | h | h
        · exact h
        · exfalso; have := h1.2 h; omega
        · exfalso; have := h1.1; omega
      subst hzv
      clear ht h0 hz
      obtain ⟨rfl, rfl⟩ | ⟨_, _, h⟩ | ⟨rfl, rfl, _⟩ | ⟨_, _, h⟩ := hpq
      · go_enter Tryd.func4, Tryd.ntmps4
        go_wp2_with fail
        refine ((HX _ (Up.refl _)).out).mono ?_
        rintro e w1 ⟨rfl, u1⟩
        have H1 := Hid.of (u1)
        have Hu1 := Hid.of u1
        clear u1
        dsimp only
        go_wp2_with fail
        refine ((HY _ H1.out).out).mono ?_
        rintro e w2 ⟨rfl, u2⟩
        have H2 := Hid.of (H1.out.trans u2)
        have Hu2 := Hid.of u2
        clear u2
        dsimp only
        go_wp2_with fail
        refine ((HZ _ H2.out).out).mono ?_
        rintro e w3 ⟨rfl, u3⟩
        have H3 := Hid.of (H2.out.trans u3)
        have Hu3 := Hid.of u3
        clear u3
        dsimp only
        go_wp2_with fail
        refine ((HK _ H3.out).out).mono ?_
        rintro e w4 ⟨rfl, u4⟩
        have H4 := Hid.of (H3.out.trans u4)
        have Hu4 := Hid.of u4
        clear u4
        dsimp only
        go_wp2_with fail
        refine ((HR _ H4.out).out).mono ?_
        rintro e w5 ⟨rfl, u5⟩
        have H5 := Hid.of (H4.out.trans u5)
        have Hu5 := Hid.of u5
        clear u5
        dsimp only
        go_wp2_with fail
        refine ((HN _ H5.out).out).mono ?_
        rintro e w6 ⟨rfl, u6⟩
        have H6 := Hid.of (H5.out.trans u6)
        have Hu6 := Hid.of u6
        clear u6
        dsimp only
        go_wp2_with fail
        refine ((HP _ H6.out).out).mono ?_
        rintro e w7 ⟨rfl, u7⟩
        have H7 := Hid.of (H6.out.trans u7)
        have Hu7 := Hid.of u7
        clear u7
        dsimp only
        go_wp2_with fail
        refine ((HQ _ H7.out).out).mono ?_
        rintro e w8 ⟨rfl, u8⟩
        have H8 := Hid.of (H7.out.trans u8)
        have Hu8 := Hid.of u8
        clear u8
        dsimp only
        go_wp2
        go_ret
        exact ⟨rfl, H8.out⟩
      · exfalso; omega
      · go_enter Tryd.func4, Tryd.ntmps4
        go_wp2_with fail
        refine ((HX _ (Up.refl _)).out).mono ?_
        rintro e w1 ⟨rfl, u1⟩
        have H1 := Hid.of (u1)
        have Hu1 := Hid.of u1
        clear u1
        dsimp only
        go_wp2_with fail
        refine ((HY _ H1.out).out).mono ?_
        rintro e w2 ⟨rfl, u2⟩
        have H2 := Hid.of (H1.out.trans u2)
        have Hu2 := Hid.of u2
        clear u2
        dsimp only
        go_wp2_with fail
        refine ((HZ _ H2.out).out).mono ?_
        rintro e w3 ⟨rfl, u3⟩
        have H3 := Hid.of (H2.out.trans u3)
        have Hu3 := Hid.of u3
        clear u3
        dsimp only
        go_wp2_with fail
        refine ((HK _ H3.out).out).mono ?_
        rintro e w4 ⟨rfl, u4⟩
        have H4 := Hid.of (H3.out.trans u4)
        have Hu4 := Hid.of u4
        clear u4
        dsimp only
        go_wp2_with fail
        refine ((HR _ H4.out).out).mono ?_
        rintro e w5 ⟨rfl, u5⟩
        have H5 := Hid.of (H4.out.trans u5)
        have Hu5 := Hid.of u5
        clear u5
        dsimp only
        go_wp2_with fail
        refine ((HN _ H5.out).out).mono ?_
        rintro e w6 ⟨rfl, u6⟩
        have H6 := Hid.of (H5.out.trans u6)
        have Hu6 := Hid.of u6
        clear u6
        dsimp only
        go_wp2_with fail
        refine ((HP _ H6.out).out).mono ?_
        rintro e w7 ⟨rfl, u7⟩
        have H7 := Hid.of (H6.out.trans u7)
        have Hu7 := Hid.of u7
        clear u7
        dsimp only
        go_wp2_with fail
        refine ((HQ _ H7.out).out).mono ?_
        rintro e w8 ⟨rfl, u8⟩
        have H8 := Hid.of (H7.out.trans u8)
        have Hu8 := Hid.of u8
        clear u8
        dsimp only
        go_wp2
        go_ret
        exact ⟨rfl, H8.out⟩
      · exfalso; omega
    · clear ht h0 hz
      obtain ⟨rfl, rfl⟩ | ⟨_, _, h⟩ | ⟨rfl, rfl, _⟩ | ⟨_, _, h⟩ := hpq
      · go_enter Tryd.func4, Tryd.ntmps4
        go_wp2_with fail
        refine ((HX _ (Up.refl _)).out).mono ?_
        rintro e w1 ⟨rfl, u1⟩
        have H1 := Hid.of (u1)
        have Hu1 := Hid.of u1
        clear u1
        dsimp only
        go_wp2_with fail
        refine ((HY _ H1.out).out).mono ?_
        rintro e w2 ⟨rfl, u2⟩
        have H2 := Hid.of (H1.out.trans u2)
        have Hu2 := Hid.of u2
        clear u2
        dsimp only
        go_wp2_with fail
        refine ((HZ _ H2.out).out).mono ?_
        rintro e w3 ⟨rfl, u3⟩
        have H3 := Hid.of (H2.out.trans u3)
        have Hu3 := Hid.of u3
        clear u3
        dsimp only
        go_wp2_with fail
        refine ((HK _ H3.out).out).mono ?_
        rintro e w4 ⟨rfl, u4⟩
        have H4 := Hid.of (H3.out.trans u4)
        have Hu4 := Hid.of u4
        clear u4
        dsimp only
        go_wp2_with fail
        refine ((HR _ H4.out).out).mono ?_
        rintro e w5 ⟨rfl, u5⟩
        have H5 := Hid.of (H4.out.trans u5)
        have Hu5 := Hid.of u5
        clear u5
        dsimp only
        go_wp2_with fail
        refine ((HN _ H5.out).out).mono ?_
        rintro e w6 ⟨rfl, u6⟩
        have H6 := Hid.of (H5.out.trans u6)
        have Hu6 := Hid.of u6
        clear u6
        dsimp only
        go_wp2_with fail
        refine ((HP _ H6.out).out).mono ?_
        rintro e w7 ⟨rfl, u7⟩
        have H7 := Hid.of (H6.out.trans u7)
        have Hu7 := Hid.of u7
        clear u7
        dsimp only
        go_wp2_with fail
        refine ((HQ _ H7.out).out).mono ?_
        rintro e w8 ⟨rfl, u8⟩
        have H8 := Hid.of (H7.out.trans u8)
        have Hu8 := Hid.of u8
        clear u8
        dsimp only
        go_wp2
        go_ret
        exact ⟨rfl, H8.out⟩
      · exfalso; omega
      · go_enter Tryd.func4, Tryd.ntmps4
        go_wp2_with fail
        refine ((HX _ (Up.refl _)).out).mono ?_
        rintro e w1 ⟨rfl, u1⟩
        have H1 := Hid.of (u1)
        have Hu1 := Hid.of u1
        clear u1
        dsimp only
        go_wp2_with fail
        refine ((HY _ H1.out).out).mono ?_
        rintro e w2 ⟨rfl, u2⟩
        have H2 := Hid.of (H1.out.trans u2)
        have Hu2 := Hid.of u2
        clear u2
        dsimp only
        go_wp2_with fail
        refine ((HZ _ H2.out).out).mono ?_
        rintro e w3 ⟨rfl, u3⟩
        have H3 := Hid.of (H2.out.trans u3)
        have Hu3 := Hid.of u3
        clear u3
        dsimp only
        go_wp2_with fail
        refine ((HK _ H3.out).out).mono ?_
        rintro e w4 ⟨rfl, u4⟩
        have H4 := Hid.of (H3.out.trans u4)
        have Hu4 := Hid.of u4
        clear u4
        dsimp only
        go_wp2_with fail
        refine ((HR _ H4.out).out).mono ?_
        rintro e w5 ⟨rfl, u5⟩
        have H5 := Hid.of (H4.out.trans u5)
        have Hu5 := Hid.of u5
        clear u5
        dsimp only
        go_wp2_with fail
        refine ((HN _ H5.out).out).mono ?_
        rintro e w6 ⟨rfl, u6⟩
        have H6 := Hid.of (H5.out.trans u6)
        have Hu6 := Hid.of u6
        clear u6
        dsimp only
        go_wp2_with fail
        refine ((HP _ H6.out).out).mono ?_
        rintro e w7 ⟨rfl, u7⟩
        have H7 := Hid.of (H6.out.trans u7)
        have Hu7 := Hid.of u7
        clear u7
        dsimp only
        go_wp2_with fail
        refine ((HQ _ H7.out).out).mono ?_
        rintro e w8 ⟨rfl, u8⟩
        have H8 := Hid.of (H7.out.trans u8)
        have Hu8 := Hid.of u8
        clear u8
        dsimp only
        go_wp2
        go_ret
        exact ⟨rfl, H8.out⟩
      · exfalso; omega
  · obtain rfl | rfl | rfl := hy
    · have hzv : z = -1 := by
        have h1 := ht (by decide) (by decide)
        rcases hz with h | h | h
        · exact h
        · exfalso; have := h1.2 h; omega
        · exfalso; have := h1.1; omega
      subst hzv
      clear ht h0 hz
      obtain ⟨rfl, rfl⟩ | ⟨_, _, h⟩ | ⟨_, _, h⟩ | ⟨rfl, rfl, _⟩ := hpq
      · go_enter Tryd.func4, Tryd.ntmps4
        go_wp2_with fail
        refine ((HX _ (Up.refl _)).out).mono ?_
        rintro e w1 ⟨rfl, u1⟩
        have H1 := Hid.of (u1)
        have Hu1 := Hid.of u1
        clear u1
        dsimp only
        go_wp2_with fail
        refine ((HY _ H1.out).out).mono ?_
        rintro e w2 ⟨rfl, u2⟩
        have H2 := Hid.of (H1.out.trans u2)
        have Hu2 := Hid.of u2
        clear u2
        dsimp only
        go_wp2_with fail
        refine ((HZ _ H2.out).out).mono ?_
        rintro e w3 ⟨rfl, u3⟩
        have H3 := Hid.of (H2.out.trans u3)
        have Hu3 := Hid.of u3
        clear u3
        dsimp only
        go_wp2_with fail
        refine ((HK _ H3.out).out).mono ?_
        rintro e w4 ⟨rfl, u4⟩
        have H4 := Hid.of (H3.out.trans u4)
        have Hu4 := Hid.of u4
        clear u4
        dsimp only
        go_wp2_with fail
        refine ((HR _ H4.out).out).mono ?_
        rintro e w5 ⟨rfl, u5⟩
        have H5 := Hid.of (H4.out.trans u5)
        have Hu5 := Hid.of u5
        clear u5
        dsimp only
        go_wp2_with fail
        refine ((HN _ H5.out).out).mono ?_
        rintro e w6 ⟨rfl, u6⟩
        have H6 := Hid.of (H5.out.trans u6)
        have Hu6 := Hid.of u6
        clear u6
        dsimp only
        go_wp2_with fail
        refine ((HP _ H6.out).out).mono ?_
        rintro e w7 ⟨rfl, u7⟩
        have H7 := Hid.of (H6.out.trans u7)
        have Hu7 := Hid.of u7
        clear u7
        dsimp only
        go_wp2_with fail
        refine ((HQ _ H7.out).out).mono ?_
        rintro e w8 ⟨rfl, u8⟩
        have H8 := Hid.of (H7.out.trans u8)
        have Hu8 := Hid.of u8
        clear u8
        dsimp only
        go_wp2
        go_ret
        exact ⟨rfl, H8.out⟩
      · exfalso; omega
      · exfalso; omega
      · go_enter Tryd.func4, Tryd.ntmps4
        go_wp2_with fail
        refine ((HX _ (Up.refl _)).out).mono ?_
        rintro e w1 ⟨rfl, u1⟩
        have H1 := Hid.of (u1)
        have Hu1 := Hid.of u1
        clear u1
        dsimp only
        go_wp2_with fail
        refine ((HY _ H1.out).out).mono ?_
        rintro e w2 ⟨rfl, u2⟩
        have H2 := Hid.of (H1.out.trans u2)
        have Hu2 := Hid.of u2
        clear u2
        dsimp only
        go_wp2_with fail
        refine ((HZ _ H2.out).out).mono ?_
        rintro e w3 ⟨rfl, u3⟩
        have H3 := Hid.of (H2.out.trans u3)
        have Hu3 := Hid.of u3
        clear u3
        dsimp only
        go_wp2_with fail
        refine ((HK _ H3.out).out).mono ?_
        rintro e w4 ⟨rfl, u4⟩
        have H4 := Hid.of (H3.out.trans u4)
        have Hu4 := Hid.of u4
        clear u4
        dsimp only
        go_wp2_with fail
        refine ((HR _ H4.out).out).mono ?_
        rintro e w5 ⟨rfl, u5⟩
        have H5 := Hid.of (H4.out.trans u5)
        have Hu5 := Hid.of u5
        clear u5
        dsimp only
        go_wp2_with fail
        refine ((HN _ H5.out).out).mono ?_
        rintro e w6 ⟨rfl, u6⟩
        have H6 := Hid.of (H5.out.trans u6)
        have Hu6 := Hid.of u6
        clear u6
        dsimp only
        go_wp2_with fail
        refine ((HP _ H6.out).out).mono ?_
        rintro e w7 ⟨rfl, u7⟩
        have H7 := Hid.of (H6.out.trans u7)
        have Hu7 := Hid.of u7
        clear u7
        dsimp only
        go_wp2_with fail
        refine ((HQ _ H7.out).out).mono ?_
        rintro e w8 ⟨rfl, u8⟩
        have H8 := Hid.of (H7.out.trans u8)
        have Hu8 := Hid.of u8
        clear u8
        dsimp only
        go_wp2
        go_ret
        exact ⟨rfl, H8.out⟩
    · have hzv : z = 0 := by
        exact h0 rfl rfl
      subst hzv
      clear ht h0 hz
      obtain ⟨rfl, rfl⟩ | ⟨_, _, h⟩ | ⟨_, _, h⟩ | ⟨rfl, rfl, _⟩ := hpq
      · go_enter Tryd.func4, Tryd.ntmps4
        go_wp2_with fail
        refine ((HX _ (Up.refl _)).out).mono ?_
        rintro e w1 ⟨rfl, u1⟩
        have H1 := Hid.of (u1)
        have Hu1 := Hid.of u1
        clear u1
        dsimp only
        go_wp2_with fail
        refine ((HY _ H1.out).out).mono ?_
        rintro e w2 ⟨rfl, u2⟩
        have H2 := Hid.of (H1.out.trans u2)
        have Hu2 := Hid.of u2
        clear u2
        dsimp only
        go_wp2_with fail
        refine ((HZ _ H2.out).out).mono ?_
        rintro e w3 ⟨rfl, u3⟩
        have H3 := Hid.of (H2.out.trans u3)
        have Hu3 := Hid.of u3
        clear u3
        dsimp only
        go_wp2_with fail
        refine ((HK _ H3.out).out).mono ?_
        rintro e w4 ⟨rfl, u4⟩
        have H4 := Hid.of (H3.out.trans u4)
        have Hu4 := Hid.of u4
        clear u4
        dsimp only
        go_wp2_with fail
        refine ((HR _ H4.out).out).mono ?_
        rintro e w5 ⟨rfl, u5⟩
        have H5 := Hid.of (H4.out.trans u5)
        have Hu5 := Hid.of u5
        clear u5
        dsimp only
        go_wp2_with fail
        refine ((HN _ H5.out).out).mono ?_
        rintro e w6 ⟨rfl, u6⟩
        have H6 := Hid.of (H5.out.trans u6)
        have Hu6 := Hid.of u6
        clear u6
        dsimp only
        go_wp2_with fail
        refine ((HP _ H6.out).out).mono ?_
        rintro e w7 ⟨rfl, u7⟩
        have H7 := Hid.of (H6.out.trans u7)
        have Hu7 := Hid.of u7
        clear u7
        dsimp only
        go_wp2_with fail
        refine ((HQ _ H7.out).out).mono ?_
        rintro e w8 ⟨rfl, u8⟩
        have H8 := Hid.of (H7.out.trans u8)
        have Hu8 := Hid.of u8
        clear u8
        dsimp only
        go_wp2
        go_ret
        exact ⟨rfl, H8.out⟩
      · exfalso; omega
      · exfalso; omega
      · go_enter Tryd.func4, Tryd.ntmps4
        go_wp2_with fail
        refine ((HX _ (Up.refl _)).out).mono ?_
        rintro e w1 ⟨rfl, u1⟩
        have H1 := Hid.of (u1)
        have Hu1 := Hid.of u1
        clear u1
        dsimp only
        go_wp2_with fail
        refine ((HY _ H1.out).out).mono ?_
        rintro e w2 ⟨rfl, u2⟩
        have H2 := Hid.of (H1.out.trans u2)
        have Hu2 := Hid.of u2
        clear u2
        dsimp only
        go_wp2_with fail
        refine ((HZ _ H2.out).out).mono ?_
        rintro e w3 ⟨rfl, u3⟩
        have H3 := Hid.of (H2.out.trans u3)
        have Hu3 := Hid.of u3
        clear u3
        dsimp only
        go_wp2_with fail
        refine ((HK _ H3.out).out).mono ?_
        rintro e w4 ⟨rfl, u4⟩
        have H4 := Hid.of (H3.out.trans u4)
        have Hu4 := Hid.of u4
        clear u4
        dsimp only
        go_wp2_with fail
        refine ((HR _ H4.out).out).mono ?_
        rintro e w5 ⟨rfl, u5⟩
        have H5 := Hid.of (H4.out.trans u5)
        have Hu5 := Hid.of u5
        clear u5
        dsimp only
        go_wp2_with fail
        refine ((HN _ H5.out).out).mono ?_
        rintro e w6 ⟨rfl, u6⟩
        have H6 := Hid.of (H5.out.trans u6)
        have Hu6 := Hid.of u6
        clear u6
        dsimp only
        go_wp2_with fail
        refine ((HP _ H6.out).out).mono ?_
        rintro e w7 ⟨rfl, u7⟩
        have H7 := Hid.of (H6.out.trans u7)
        have Hu7 := Hid.of u7
        clear u7
        dsimp only
        go_wp2_with fail
        refine ((HQ _ H7.out).out).mono ?_
        rintro e w8 ⟨rfl, u8⟩
        have H8 := Hid.of (H7.out.trans u8)
        have Hu8 := Hid.of u8
        clear u8
        dsimp only
        go_wp2
        go_ret
        exact ⟨rfl, H8.out⟩
    · clear ht h0 hz
      obtain ⟨rfl, rfl⟩ | ⟨_, _, h⟩ | ⟨_, _, h⟩ | ⟨rfl, rfl, _⟩ := hpq
      · go_enter Tryd.func4, Tryd.ntmps4
        go_wp2_with fail
        refine ((HX _ (Up.refl _)).out).mono ?_
        rintro e w1 ⟨rfl, u1⟩
        have H1 := Hid.of (u1)
        have Hu1 := Hid.of u1
        clear u1
        dsimp only
        go_wp2_with fail
        refine ((HY _ H1.out).out).mono ?_
        rintro e w2 ⟨rfl, u2⟩
        have H2 := Hid.of (H1.out.trans u2)
        have Hu2 := Hid.of u2
        clear u2
        dsimp only
        go_wp2_with fail
        refine ((HZ _ H2.out).out).mono ?_
        rintro e w3 ⟨rfl, u3⟩
        have H3 := Hid.of (H2.out.trans u3)
        have Hu3 := Hid.of u3
        clear u3
        dsimp only
        go_wp2_with fail
        refine ((HK _ H3.out).out).mono ?_
        rintro e w4 ⟨rfl, u4⟩
        have H4 := Hid.of (H3.out.trans u4)
        have Hu4 := Hid.of u4
        clear u4
        dsimp only
        go_wp2_with fail
        refine ((HR _ H4.out).out).mono ?_
        rintro e w5 ⟨rfl, u5⟩
        have H5 := Hid.of (H4.out.trans u5)
        have Hu5 := Hid.of u5
        clear u5
        dsimp only
        go_wp2_with fail
        refine ((HN _ H5.out).out).mono ?_
        rintro e w6 ⟨rfl, u6⟩
        have H6 := Hid.of (H5.out.trans u6)
        have Hu6 := Hid.of u6
        clear u6
        dsimp only
        go_wp2_with fail
        refine ((HP _ H6.out).out).mono ?_
        rintro e w7 ⟨rfl, u7⟩
        have H7 := Hid.of (H6.out.trans u7)
        have Hu7 := Hid.of u7
        clear u7
        dsimp only
        go_wp2_with fail
        refine ((HQ _ H7.out).out).mono ?_
        rintro e w8 ⟨rfl, u8⟩
        have H8 := Hid.of (H7.out.trans u8)
        have Hu8 := Hid.of u8
        clear u8
        dsimp only
        go_wp2
        go_ret
        exact ⟨rfl, H8.out⟩
      · exfalso; omega
      · exfalso; omega
      · go_enter Tryd.func4, Tryd.ntmps4
        go_wp2_with fail
        refine ((HX _ (Up.refl _)).out).mono ?_
        rintro e w1 ⟨rfl, u1⟩
        have H1 := Hid.of (u1)
        have Hu1 := Hid.of u1
        clear u1
        dsimp only
        go_wp2_with fail
        refine ((HY _ H1.out).out).mono ?_
        rintro e w2 ⟨rfl, u2⟩
        have H2 := Hid.of (H1.out.trans u2)
        have Hu2 := Hid.of u2
        clear u2
        dsimp only
        go_wp2_with fail
        refine ((HZ _ H2.out).out).mono ?_
        rintro e w3 ⟨rfl, u3⟩
        have H3 := Hid.of (H2.out.trans u3)
        have Hu3 := Hid.of u3
        clear u3
        dsimp only
        go_wp2_with fail
        refine ((HK _ H3.out).out).mono ?_
        rintro e w4 ⟨rfl, u4⟩
        have H4 := Hid.of (H3.out.trans u4)
        have Hu4 := Hid.of u4
        clear u4
        dsimp only
        go_wp2_with fail
        refine ((HR _ H4.out).out).mono ?_
        rintro e w5 ⟨rfl, u5⟩
        have H5 := Hid.of (H4.out.trans u5)
        have Hu5 := Hid.of u5
        clear u5
        dsimp only
        go_wp2_with fail
        refine ((HN _ H5.out).out).mono ?_
        rintro e w6 ⟨rfl, u6⟩
        have H6 := Hid.of (H5.out.trans u6)
        have Hu6 := Hid.of u6
        clear u6
        dsimp only
        go_wp2_with fail
        refine ((HP _ H6.out).out).mono ?_
        rintro e w7 ⟨rfl, u7⟩
        have H7 := Hid.of (H6.out.trans u7)
        have Hu7 := Hid.of u7
        clear u7
        dsimp only
        go_wp2_with fail
        refine ((HQ _ H7.out).out).mono ?_
        rintro e w8 ⟨rfl, u8⟩
        have H8 := Hid.of (H7.out.trans u8)
        have Hu8 := Hid.of u8
        clear u8
        dsimp only
        go_wp2
        go_ret
        exact ⟨rfl, H8.out⟩
  · clear ht h0 hz hy
    obtain ⟨rfl, rfl⟩ | ⟨rfl, rfl, _⟩ | ⟨_, _, h⟩ | ⟨_, _, h⟩ := hpq
    · go_enter Tryd.func4, Tryd.ntmps4
      go_wp2_with fail
      refine ((HX _ (Up.refl _)).out).mono ?_
      rintro e w1 ⟨rfl, u1⟩
      have H1 := Hid.of (u1)
      have Hu1 := Hid.of u1
      clear u1
      dsimp only
      go_wp2_with fail
      refine ((HY _ H1.out).out).mono ?_
      rintro e w2 ⟨rfl, u2⟩
      have H2 := Hid.of (H1.out.trans u2)
      have Hu2 := Hid.of u2
      clear u2
      dsimp only
      go_wp2_with fail
      refine ((HZ _ H2.out).out).mono ?_
      rintro e w3 ⟨rfl, u3⟩
      have H3 := Hid.of (H2.out.trans u3)
      have Hu3 := Hid.of u3
      clear u3
      dsimp only
      go_wp2_with fail
      refine ((HK _ H3.out).out).mono ?_
      rintro e w4 ⟨rfl, u4⟩
      have H4 := Hid.of (H3.out.trans u4)
      have Hu4 := Hid.of u4
      clear u4
      dsimp only
      go_wp2_with fail
      refine ((HR _ H4.out).out).mono ?_
      rintro e w5 ⟨rfl, u5⟩
      have H5 := Hid.of (H4.out.trans u5)
      have Hu5 := Hid.of u5
      clear u5
      dsimp only
      go_wp2_with fail
      refine ((HN _ H5.out).out).mono ?_
      rintro e w6 ⟨rfl, u6⟩
      have H6 := Hid.of (H5.out.trans u6)
      have Hu6 := Hid.of u6
      clear u6
      dsimp only
      go_wp2_with fail
      refine ((HP _ H6.out).out).mono ?_
      rintro e w7 ⟨rfl, u7⟩
      have H7 := Hid.of (H6.out.trans u7)
      have Hu7 := Hid.of u7
      clear u7
      dsimp only
      go_wp2_with fail
      refine ((HQ _ H7.out).out).mono ?_
      rintro e w8 ⟨rfl, u8⟩
      have H8 := Hid.of (H7.out.trans u8)
      have Hu8 := Hid.of u8
      clear u8
      dsimp only
      go_wp2
      go_ret
      exact ⟨rfl, H8.out⟩
    · go_enter Tryd.func4, Tryd.ntmps4
      go_wp2_with fail
      refine ((HX _ (Up.refl _)).out).mono ?_
      rintro e w1 ⟨rfl, u1⟩
      have H1 := Hid.of (u1)
      have Hu1 := Hid.of u1
      clear u1
      dsimp only
      go_wp2_with fail
      refine ((HY _ H1.out).out).mono ?_
      rintro e w2 ⟨rfl, u2⟩
      have H2 := Hid.of (H1.out.trans u2)
      have Hu2 := Hid.of u2
      clear u2
      dsimp only
      go_wp2_with fail
      refine ((HZ _ H2.out).out).mono ?_
      rintro e w3 ⟨rfl, u3⟩
      have H3 := Hid.of (H2.out.trans u3)
      have Hu3 := Hid.of u3
      clear u3
      dsimp only
      go_wp2_with fail
      refine ((HK _ H3.out).out).mono ?_
      rintro e w4 ⟨rfl, u4⟩
      have H4 := Hid.of (H3.out.trans u4)
      have Hu4 := Hid.of u4
      clear u4
      dsimp only
      go_wp2_with fail
      refine ((HR _ H4.out).out).mono ?_
      rintro e w5 ⟨rfl, u5⟩
      have H5 := Hid.of (H4.out.trans u5)
      have Hu5 := Hid.of u5
      clear u5
      dsimp only
      go_wp2_with fail
      refine ((HN _ H5.out).out).mono ?_
      rintro e w6 ⟨rfl, u6⟩
      have H6 := Hid.of (H5.out.trans u6)
      have Hu6 := Hid.of u6
      clear u6
      dsimp only
      go_wp2_with fail
      refine ((HP _ H6.out).out).mono ?_
      rintro e w7 ⟨rfl, u7⟩
      have H7 := Hid.of (H6.out.trans u7)
      have Hu7 := Hid.of u7
      clear u7
      dsimp only
      go_wp2_with fail
      refine ((HQ _ H7.out).out).mono ?_
      rintro e w8 ⟨rfl, u8⟩
      have H8 := Hid.of (H7.out.trans u8)
      have Hu8 := Hid.of u8
      clear u8
      dsimp only
      go_wp2
      go_ret
      exact ⟨rfl, H8.out⟩
    · exfalso; omega
    · exfalso; omega
end Go.Proofs.YtfmdaollnjnhgaaDoor
