import Derived.Test.YtimmpobpfgdncaaCf
namespace Go.Proofs.Ytimmpobpfgdncaa
open Go.RowKit Go.Conc TextNum
theorem ow_fates2 (w : World) (a b c e : Int) : Fts (w.alloc (.cells #[.int .i64 a, .int .i64 b, .int .i64 c, .int .i64 e] 58)) (.slice (some ⟨w.heap.size, 0, none⟩) 2 2) [(a, b), (c, e)] :=
  fts_row (B := 0) ⟨rfl, .inr ⟨w.heap.size, 2, _, rfl, Nat.zero_le _, heap_alloc_new w _, Nat.le_refl _, by simp [maxLen], rfl, rfl⟩⟩
set_option maxRecDepth 100000 in
set_option maxHeartbeats 2000000 in
theorem LaneCloses_walk (w : World) (z : Int) (v1 v2 : Value) (l1 l2 : List UInt8) (hv1 : Sb w v1 l1) (hv2 : Sb w v2 l2) : Calls Try.prog 7 #[.int .i64 z, v1, v2] w fun e w' => e = .returned (.bool true) ∧ Up w w' := by
  have hB := below_walk w z 50 (by omega) (by omega)
  have h1 := short_walk w v1 l1 hv1
  have h2 := short_walk w v2 l2 hv2
  clear hv1 hv2
  go_enter Try.func7, Try.ntmps7
  go_wp2_with fail
  refine hB.mono ?_
  rintro e w1 ⟨q, rfl, hq, rfl⟩
  clear hB
  have hqw : IntKind.i64.wrap ((q : Int) + 1) = (q : Int) + 1 := by rw [IntKind.wrap_i64]; omega
  dsimp only
  go_wp2_with fail
  refine h1.mono ?_
  rintro e w2 ⟨u1, rfl, s1, _, rfl⟩
  clear h1
  dsimp only
  go_wp2_with fail
  refine h2.mono ?_
  rintro e w ⟨u2, rfl, s2, _, rfl⟩
  clear h2
  have HD1 := Hid.of s1
  have HD2 := Hid.of s2
  have hn1 : (l1.take 4096).length ≤ 4096 := by rw [List.length_take]; omega
  have hn2 : (l2.take 4096).length ≤ 4096 := by rw [List.length_take]; omega
  generalize l1.take 4096 = d1 at *
  generalize l2.take 4096 = d2 at *
  obtain ⟨ua1, uc1, rfl, _⟩ := id s1
  obtain ⟨ua2, uc2, rfl, _⟩ := id s2
  clear s1 s2
  obtain ⟨d, hd⟩ : ∃ d, q + 1 = d := ⟨_, rfl⟩
  have hdz : (q : Int) + 1 = (d : Int) := by omega
  have hd1 : 1 ≤ d := by omega
  have hd2 : d ≤ 50 := by omega
  rw [hdz] at hqw ⊢
  clear hd hq hqw hdz
  have HF := Hid.of (ow_fates2 w 3 (d : Int) 0 0)
  have HUF := Hid.of ((Up.refl w).alloc (.cells #[.int .i64 3, .int .i64 (d : Int), .int .i64 0, .int .i64 0] 58))
  dsimp only
  go_wp2_with fail
  generalize w.alloc (.cells #[.int .i64 3, .int .i64 (d : Int), .int .i64 0, .int .i64 0] 58) = WF at *
  have hfe : fateE [(3, (d : Int)), (0, 0)] = 0 := by
    unfold fateE fok
    have e2 : decide ((d : Int) ≤ 1000) = true := by simp; omega
    simp [e2]
  have hN := New_yes WF 2 (.slice (some ⟨w.heap.size, 0, none⟩) 2 2) [(3, (d : Int)), (0, 0)] (by omega) (by omega) HF.out hfe
  refine hN.mono ?_
  rintro e w3 ⟨S, rfl, h1, h2, h3, h4, h5, h6, _⟩
  have HJ0 := Hid.of (LJ.new h1 h2 (h3.trans (show _ = CA 0 [(3, (d : Int)), (0, 0)] [] false [] false [] from rfl)) h4 (HUF.out.trans h5) (fun x hx => Nat.le_trans HUF.out.size (h6 x hx)))
  clear h1 h2 h3 h4 h5 h6 hN HF HUF hfe
  obtain ⟨nb, hnb⟩ : ∃ nb, S.nb = nb := ⟨_, rfl⟩
  rw [hnb]
  have HNB0 := Hid.of (And.intro hnb trivial)
  clear hnb
  dsimp only
  go_wp2_with (go_at_call 13; refine (num_walk _ _).mono ?_; rintro _ w9 ⟨rfl, h9⟩; obtain rfl := h9.symm; clear h9; dsimp only)
  refine (lent_walk w3 (.slice ua1 d1.length uc1) d1 (HD1.out.up HJ0.out.up) (by have := hn1; omega)).mono ?_
  rintro e w1l ⟨rfl, ol, ul⟩
  have HLO := Hid.of ol
  have HJ1 := Hid.of (HJ0.out.up' ul)
  have HNB1 := HNB0
  clear HJ0 HNB0 ol ul
  dsimp only
  go_wp2_with (go_at_call 13; refine (num_walk _ _).mono ?_; rintro _ w9 ⟨rfl, h9⟩; obtain rfl := h9.symm; clear h9; dsimp only)
  have hS := HJ1.out.send 0 (.slice (some ⟨w3.heap.size, 0, none⟩) d1.length (d1.length + 200)) d1 rfl (lnt_sb rfl HLO.out) (fun g hg => row_tag HLO.out hg) (by have := hn1; omega) (by show 0 ≤ _; omega) (by omega)
  rw [HNB1.out.1] at hS
  refine hS.mono ?_
  rintro e w2 ⟨rfl, S2, h9⟩
  have HJ2 := Hid.of (HJ1.out.st h9)
  rw [CA_delay d d1 (by omega), List.nil_append, Nat.zero_add] at HJ2
  have HNB2 := Hid.of (And.intro (h9.nb.trans HNB1.out.1) trivial)
  clear h9 hS HJ1 HNB1 HLO
  dsimp only
  go_wp2_with (go_at_call 13; refine (num_walk _ _).mono ?_; rintro _ w9 ⟨rfl, h9⟩; obtain rfl := h9.symm; clear h9; dsimp only)
  refine (lent_walk w2 (.slice ua2 d2.length uc2) d2 (HD2.out.up HJ2.out.up) (by have := hn2; omega)).mono ?_
  rintro e w3l ⟨rfl, ol, ul⟩
  have HLO := Hid.of ol
  have HJ3 := Hid.of (HJ2.out.up' ul)
  have HNB3 := HNB2
  clear HJ2 HNB2 ol ul
  dsimp only
  go_wp2_with (go_at_call 13; refine (num_walk _ _).mono ?_; rintro _ w9 ⟨rfl, h9⟩; obtain rfl := h9.symm; clear h9; dsimp only)
  have hS := HJ3.out.send 0 (.slice (some ⟨w2.heap.size, 0, none⟩) d2.length (d2.length + 200)) d2 rfl (lnt_sb rfl HLO.out) (fun g hg => row_tag HLO.out hg) (by have := hn2; omega) (by show 0 ≤ _; omega) (by omega)
  rw [HNB3.out.1] at hS
  refine hS.mono ?_
  rintro e w4 ⟨rfl, S4, h9⟩
  have HJ4 := Hid.of (HJ3.out.st h9)
  rw [CA_here 0 d2 (by simp), List.nil_append] at HJ4
  have HNB4 := Hid.of (And.intro (h9.nb.trans HNB3.out.1) trivial)
  clear h9 hS HJ3 HNB3 HLO
  dsimp only
  go_wp2_with (go_at_call 13; refine (num_walk _ _).mono ?_; rintro _ w9 ⟨rfl, h9⟩; obtain rfl := h9.symm; clear h9; dsimp only)
  have hC := HJ4.out.close
  rw [HNB4.out.1] at hC
  refine hC.mono ?_
  rintro e w5 ⟨rfl, S5, h9⟩
  have HJ5 := Hid.of (HJ4.out.st h9)
  have HNB5 := Hid.of (And.intro (h9.nb.trans HNB4.out.1) trivial)
  clear h9 hC HJ4 HNB4
  dsimp only
  go_wp2_with (go_at_call 13; refine (num_walk _ _).mono ?_; rintro _ w9 ⟨rfl, h9⟩; obtain rfl := h9.symm; clear h9; dsimp only)
  obtain ⟨l0, hl0, hs0, _⟩ := abs_get (i := 0) HJ5.out.ab rfl
  have hX := Send_shut w5 S5 0 l0 (.slice ua1 d1.length uc1) HJ5.out.ok hl0 hs0
  have hY := Close_shut w5 S5 0 l0 HJ5.out.ok hl0 hs0
  rw [HNB5.out.1] at hX hY
  refine hX.mono ?_
  rintro e wz ⟨rfl, rfl⟩
  dsimp only
  go_wp2_with (go_at_call 13; refine (num_walk _ _).mono ?_; rintro _ w9 ⟨rfl, h9⟩; obtain rfl := h9.symm; clear h9; dsimp only)
  refine hY.mono ?_
  rintro e wz ⟨rfl, rfl⟩
  clear hX hY hl0 hs0
  dsimp only
  go_wp2_with (go_at_call 13; refine (num_walk _ _).mono ?_; rintro _ w9 ⟨rfl, h9⟩; obtain rfl := h9.symm; clear h9; dsimp only)
  have hW := HJ5.out.wait 0 0 rfl (by omega) (by show 0 ≤ _; omega) (by omega)
  rw [HNB5.out.1, CA_wait0] at hW
  refine hW.mono ?_
  rintro e w6 ⟨mv6, rfl, om, S6, h9⟩
  dsimp only at om h9
  have HJ6 := Hid.of (HJ5.out.st h9)
  have HNB6 := Hid.of (And.intro (h9.nb.trans HNB5.out.1) trivial)
  have HM1 := Hid.of om
  clear h9 hW HJ5 HNB5 om
  dsimp only
  have hdw : IntKind.i64.wrap ((d : Int) - 1) = ((d - 1 : Nat) : Int) := by rw [IntKind.wrap_i64]; omega
  go_wp2_with (go_at_call 13; refine (num_walk _ _).mono ?_; rintro _ w9 ⟨rfl, h9⟩; obtain rfl := h9.symm; clear h9; dsimp only)
  have hW := HJ6.out.wait 0 (d - 1) rfl (by omega) (by show 0 ≤ _; omega) (by omega)
  rw [HNB6.out.1, CA_idle (d - 1) 0 (by omega), Nat.zero_add] at hW
  refine hW.mono ?_
  rintro e w7 ⟨mv7, rfl, om, S7, h9⟩
  dsimp only at om h9
  have HJ7 := Hid.of (HJ6.out.st h9)
  have HNB7 := Hid.of (And.intro (h9.nb.trans HNB6.out.1) trivial)
  have HM1 := Hid.of (h9.ow HJ6.out.ok HM1.out)
  clear h9 hW HJ6 HNB6 om
  dsimp only
  clear hdw
  rw [show CA (d - 1) [] [] true [] false [(d, 0, d1)] = CA (d - 1) [] [] true [] false [(d - 1 + 0 + 1, 0, d1)] by rw [show d - 1 + 0 + 1 = d by omega]] at HJ7
  go_wp2_with (go_at_call 13; refine (num_walk _ _).mono ?_; rintro _ w9 ⟨rfl, h9⟩; obtain rfl := h9.symm; clear h9; dsimp only)
  have hW := HJ7.out.wait 0 1 rfl (by omega) (by show d - 1 ≤ _; omega) (by omega)
  rw [HNB7.out.1, CA_comes 0 0 (d - 1), show d - 1 + 0 + 1 = d by omega] at hW
  refine hW.mono ?_
  rintro e w8 ⟨mv8, rfl, om, S8, h9⟩
  dsimp only at om h9
  have HJ8 := Hid.of (HJ7.out.st h9)
  have HNB8 := Hid.of (And.intro (h9.nb.trans HNB7.out.1) trivial)
  have HM1 := Hid.of (h9.ow HJ7.out.ok HM1.out)
  have HM2 := Hid.of om
  clear h9 hW HJ7 HNB7 om
  dsimp only
  go_wp2_with (go_at_call 13; refine (num_walk _ _).mono ?_; rintro _ w9 ⟨rfl, h9⟩; obtain rfl := h9.symm; clear h9; dsimp only)
  refine (same_walk w8 mv6 (.slice ua2 d2.length uc2) d2 d2 (Ow.sb HM1.out) (HD2.out.up HJ8.out.up) (by omega)).mono ?_
  rintro e w9 ⟨rfl, ul⟩
  have HJ9 := Hid.of (HJ8.out.up' ul)
  have HM1 := Hid.of (ow_up HM1.out ul)
  have HM2 := Hid.of (ow_up HM2.out ul)
  have HNB9 := HNB8
  clear HJ8 HNB8 ul
  dsimp only
  go_wp2_with (go_at_call 13; refine (num_walk _ _).mono ?_; rintro _ w9 ⟨rfl, h9⟩; obtain rfl := h9.symm; clear h9; dsimp only)
  refine (same_walk w9 mv8 (.slice ua1 d1.length uc1) d1 d1 (Ow.sb HM2.out) (HD1.out.up HJ9.out.up) (by omega)).mono ?_
  rintro e w10 ⟨rfl, ul⟩
  have HJ10 := Hid.of (HJ9.out.up' ul)
  have HM1 := Hid.of (ow_up HM1.out ul)
  have HM2 := Hid.of (ow_up HM2.out ul)
  have HNB10 := HNB9
  clear HJ9 HNB9 ul
  dsimp only
  have hb1 : (d1 == d1) = true := by simp
  have hb2 : (d2 == d2) = true := by simp
  rw [hb1]
  have hNw := Now_walk w10 _ HJ10.out.ok
  rw [HNB10.out.1, HJ10.out.now, show (CA d [] [] true [] false []).now = d from rfl] at hNw
  go_wp2_with (first | (go_at_call 13; refine (num_walk _ _).mono ?_; rintro _ w9 ⟨rfl, h9⟩; obtain rfl := h9.symm; clear h9; dsimp only) | (go_at_call 16; refine hNw.mono ?_; rintro _ w9 ⟨rfl, h9⟩; obtain rfl := h9.symm; clear h9; dsimp only))
  clear hNw
  go_wp2_with (go_at_call 13; refine (num_walk _ _).mono ?_; rintro _ w9 ⟨rfl, h9⟩; obtain rfl := h9.symm; clear h9; dsimp only)
  have hW := HJ10.out.wait 0 1000 rfl (by omega) (by show d ≤ _; omega) (by omega)
  rw [HNB10.out.1, CA_end] at hW
  refine hW.mono ?_
  rintro e w11 ⟨mv11, rfl, om, S11, h9⟩
  dsimp only at om h9
  have HJ11 := Hid.of (HJ10.out.st h9)
  have HNB11 := Hid.of (And.intro (h9.nb.trans HNB10.out.1) trivial)
  clear h9 hW HJ10 HNB10 om
  dsimp only
  go_wp2_with (go_at_call 13; refine (num_walk _ _).mono ?_; rintro _ w9 ⟨rfl, h9⟩; obtain rfl := h9.symm; clear h9; dsimp only)
  refine (lent_walk w11 (.slice ua1 d1.length uc1) d1 (HD1.out.up HJ11.out.up) (by have := hn1; omega)).mono ?_
  rintro e w12l ⟨rfl, ol, ul⟩
  have HLO := Hid.of ol
  have HJ12 := Hid.of (HJ11.out.up' ul)
  have HNB12 := HNB11
  clear HJ11 HNB11 ol ul
  dsimp only
  go_wp2_with (go_at_call 13; refine (num_walk _ _).mono ?_; rintro _ w9 ⟨rfl, h9⟩; obtain rfl := h9.symm; clear h9; dsimp only)
  have hS := HJ12.out.send 1 (.slice (some ⟨w11.heap.size, 0, none⟩) d1.length (d1.length + 200)) d1 rfl (lnt_sb rfl HLO.out) (fun g hg => row_tag HLO.out hg) (by have := hn1; omega) (by show d ≤ _; omega) (by omega)
  rw [HNB12.out.1] at hS
  refine hS.mono ?_
  rintro e w13 ⟨rfl, S13, h9⟩
  have HJ13 := Hid.of (HJ12.out.st h9)
  rw [CA_one d1 (by simp), List.nil_append] at HJ13
  have HNB13 := Hid.of (And.intro (h9.nb.trans HNB12.out.1) trivial)
  clear h9 hS HJ12 HNB12 HLO
  dsimp only
  go_wp2_with (go_at_call 13; refine (num_walk _ _).mono ?_; rintro _ w9 ⟨rfl, h9⟩; obtain rfl := h9.symm; clear h9; dsimp only)
  have hW := HJ13.out.wait 1 0 rfl (by omega) (by show d ≤ _; omega) (by omega)
  rw [HNB13.out.1, CA_wait1] at hW
  refine hW.mono ?_
  rintro e w14 ⟨mv14, rfl, om, S14, h9⟩
  dsimp only at om h9
  have HJ14 := Hid.of (HJ13.out.st h9)
  have HNB14 := Hid.of (And.intro (h9.nb.trans HNB13.out.1) trivial)
  have HM3 := Hid.of om
  clear h9 hW HJ13 HNB13 om
  dsimp only
  go_wp2_with (go_at_call 13; refine (num_walk _ _).mono ?_; rintro _ w9 ⟨rfl, h9⟩; obtain rfl := h9.symm; clear h9; dsimp only)
  refine (same_walk w14 mv14 (.slice ua1 d1.length uc1) d1 d1 (Ow.sb HM3.out) (HD1.out.up HJ14.out.up) (by omega)).mono ?_
  rintro e w15 ⟨rfl, ul⟩
  have HJ15 := Hid.of (HJ14.out.up' ul)
  have HM3 := Hid.of (ow_up HM3.out ul)
  have HNB15 := HNB14
  clear HJ14 HNB14 ul
  dsimp only
  rw [hb1]
  go_wp2_with (go_at_call 13; refine (num_walk _ _).mono ?_; rintro _ w9 ⟨rfl, h9⟩; obtain rfl := h9.symm; clear h9; dsimp only)
  have hW := HJ15.out.wait 0 5 rfl (by omega) (by show d ≤ _; omega) (by omega)
  rw [HNB15.out.1, CA_end] at hW
  refine hW.mono ?_
  rintro e w16 ⟨mv16, rfl, om, S16, h9⟩
  dsimp only at om h9
  have HJ16 := Hid.of (HJ15.out.st h9)
  have HNB16 := Hid.of (And.intro (h9.nb.trans HNB15.out.1) trivial)
  clear h9 hW HJ15 HNB15 om
  dsimp only
  have hNw := Now_walk w16 _ HJ16.out.ok
  rw [HNB16.out.1, HJ16.out.now, show (CA d [] [] true [] false []).now = d from rfl] at hNw
  go_wp2_with (first | (go_at_call 13; refine (num_walk _ _).mono ?_; rintro _ w9 ⟨rfl, h9⟩; obtain rfl := h9.symm; clear h9; dsimp only) | (go_at_call 16; refine hNw.mono ?_; rintro _ w9 ⟨rfl, h9⟩; obtain rfl := h9.symm; clear h9; dsimp only))
  clear hNw
  go_ret
  exact ⟨rfl, HJ16.out.up⟩
end Go.Proofs.Ytimmpobpfgdncaa
