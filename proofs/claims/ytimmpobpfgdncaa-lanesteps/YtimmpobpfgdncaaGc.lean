import Derived.Test.YtimmpobpfgdncaaGb
namespace Go.Proofs.Ytimmpobpfgdncaa
open Go.RowKit Go.Conc TextNum
/-- one message that is d late, at its beginning -/
def ST (d : Nat) (m : List UInt8) : AN := if d = 0 then CA 0 [] [m] false [] false [] else CA 0 [] [] false [] false [(d, 0, m)]
theorem ST_ls (d : Nat) (m : List UInt8) : (ST d m).ls[0]? = some ((if d = 0 then [m] else []), false) := by
  unfold ST
  split <;> rfl
theorem ST_now (d : Nat) (m : List UInt8) : (ST d m).now = 0 := by
  unfold ST
  split <;> rfl
theorem sd_one (d : Nat) (m : List UInt8) (ua : Option Addr) (uc : Nat) : [(⟨0, 0, ua, uc, m, 3, (d : Int)⟩ : Sn)].foldl (snA true true) (A0 true true [⟨0, 0, ua, uc, m, 3, (d : Int)⟩]) = ST d m := by
  show SendA (CA 0 [(3, (d : Int))] [] false [] false []) 0 m = _
  unfold ST
  by_cases h : d = 0
  · subst h
    rw [if_pos rfl]
    unfold SendA nextA sendA postA putA CA comeA
    simp [List.modify]
  · rw [if_neg h, CA_delay d m (by omega), List.nil_append, Nat.zero_add]
theorem aw_ca1 {now t n : Nat} {m : List UInt8} (h1 : now < t) (h2 : t ≤ now + n) : awA n (CA now [] [] false [] false [(t, 0, m)]) [0] = ((0, m, 0), CA t [] [] false [] false []) := by
  have := CA_comes (fs := []) (y := []) (s := false) (r := false) (m := m) (t - now - 1) (n - (t - now)) now
  rw [show t - now - 1 + 1 + (n - (t - now)) = n by omega, show now + (t - now - 1) + 1 = t by omega] at this
  exact this
theorem aw_ca2 {now t n : Nat} {m : List UInt8} (h : now + n < t) : awA n (CA now [] [] false [] false [(t, 0, m)]) [0] = ((0, [], 190), CA (now + n) [] [] false [] false [(t, 0, m)]) := CA_idle n now h
theorem aw_st1 {d n : Nat} {m : List UInt8} (h : d ≤ n) : awA n (ST d m) [0] = ((0, m, 0), CA d [] [] false [] false []) := by
  unfold ST
  by_cases h0 : d = 0
  · subst h0
    rw [if_pos rfl, CA_wait0]
  · rw [if_neg h0, aw_ca1 (by omega) (by omega)]
theorem aw_st2 {d n : Nat} {m : List UInt8} (h : n < d) : awA n (ST d m) [0] = ((0, [], 190), CA n [] [] false [] false [(d, 0, m)]) := by
  unfold ST
  rw [if_neg (by omega), aw_ca2 (by omega), Nat.zero_add]
theorem snl_one (w : World) (q : Sn) (h : SnOk w q) : SnL (w.alloc (.cells (snc q).toArray 65)) (some ⟨w.heap.size, 0, none⟩) [q] :=
  ⟨fun i hi => ⟨w.heap.size, 0, rfl, fun j v hv => by
    obtain rfl : i = 0 := by simpa using hi
    rw [show 0 + 0 * 5 + j = j by omega]
    exact (at_new w 65 (snc q)).cell hv⟩, fun q' hq => by
    obtain rfl := List.mem_singleton.1 hq
    exact h.up ((Up.refl w).alloc _)⟩
set_option maxRecDepth 100000 in
set_option maxHeartbeats 4000000 in
theorem LaneSteps_walk (w : World) (za zb zd : Int) (v1 : Value) (l1 : List UInt8) (hv1 : Sb w v1 l1) : Calls Try.prog 8 #[.int .i64 za, .int .i64 zb, .int .i64 zd, v1] w fun e w' => e = .returned (.bool true) ∧ Up w w' := by
  have hB1 := below_walk w za 60 (by omega) (by omega)
  have hB2 := below_walk w zb 60 (by omega) (by omega)
  have hB3 := below_walk w zd 100 (by omega) (by omega)
  have h1 := short_walk w v1 l1 hv1
  clear hv1
  go_enter Try.func8, Try.ntmps8
  go_wp2_with fail
  refine hB1.mono ?_
  rintro e w9 ⟨a, rfl, ha, h9⟩
  obtain rfl := h9.symm
  clear hB1 h9
  dsimp only
  go_wp2_with fail
  refine hB2.mono ?_
  rintro e w9 ⟨b, rfl, hb, h9⟩
  obtain rfl := h9.symm
  clear hB2 h9
  dsimp only
  go_wp2_with fail
  refine hB3.mono ?_
  rintro e w9 ⟨d, rfl, hd, h9⟩
  obtain rfl := h9.symm
  clear hB3 h9
  dsimp only
  go_wp2_with fail
  refine h1.mono ?_
  rintro e w9 ⟨u1, rfl, s1, _, h9⟩
  obtain rfl := h9.symm
  clear h1 h9
  have hn1 : (l1.take 4096).length ≤ 4096 := by rw [List.length_take]; omega
  generalize l1.take 4096 = m at *
  obtain ⟨ua, uc, rfl, _⟩ := id s1
  have HD := Hid.of s1
  have HSL := Hid.of (show SnL (w.alloc (.cells #[.int .i64 0, .int .i64 0, .slice ua m.length uc, .int .i64 3, .int .i64 (d : Int)] 65)) (some ⟨w.heap.size, 0, none⟩) [⟨0, 0, ua, uc, m, 3, (d : Int)⟩] from snl_one w ⟨0, 0, ua, uc, m, 3, (d : Int)⟩ ⟨s1, hn1, show 0 < 2 by decide, show 0 < 20 by decide, by simp [fok]; omega⟩)
  have HUF := Hid.of ((Up.refl w).alloc (.cells #[.int .i64 0, .int .i64 0, .slice ua m.length uc, .int .i64 3, .int .i64 (d : Int)] 65))
  clear s1
  dsimp only
  go_wp2_with fail
  generalize w.alloc (.cells #[.int .i64 0, .int .i64 0, .slice ua m.length uc, .int .i64 3, .int .i64 (d : Int)] 65) = WF at *
  generalize hbs : w.heap.size = bs at *
  have hS1 := sends_walk WF (some ⟨bs, 0, none⟩) 1 [⟨0, 0, ua, uc, m, 3, (d : Int)⟩] true true HSL.out (by simp)
  rw [sd_one, show gsum [(⟨0, 0, ua, uc, m, 3, (d : Int)⟩ : Sn)] = 0 from rfl] at hS1
  refine hS1.mono ?_
  rintro e w1 ⟨nb, rfl, S, hJ, hnb, _⟩
  have HJa := Hid.of hJ
  have HNBa := Hid.of (And.intro hnb trivial)
  clear hS1 hJ hnb
  dsimp only
  go_wp2_with fail
  have hS2 := sends_walk w1 (some ⟨bs, 0, none⟩) 1 [⟨0, 0, ua, uc, m, 3, (d : Int)⟩] true true (HSL.out.up HJa.out.up) (by simp)
  rw [sd_one, show gsum [(⟨0, 0, ua, uc, m, 3, (d : Int)⟩ : Sn)] = 0 from rfl] at hS2
  refine hS2.mono ?_
  rintro e w2 ⟨mb, rfl, T, hJ, hnb, _⟩
  have HDJ := Hid.of (show ∀ x, own S x → ¬ own T x from fun x h1 h2 => by have := HJa.out.ok.lt h1; have := hJ.fr x h2; omega)
  have HX0 := Hid.of ((HJa.out.up' hJ.up).base HUF.out)
  have HY0 := Hid.of (hJ.base (HUF.out.trans HJa.out.up))
  have HYB0 := Hid.of (And.intro hnb trivial)
  have HXB0 := HNBa
  clear hS2 hJ hnb HJa HNBa HSL HUF
  subst hbs
  dsimp only
  have hab : IntKind.i64.wrap ((a : Int) + (b : Int)) = ((a + b : Nat) : Int) := by rw [IntKind.wrap_i64]; omega
  by_cases hc : d ≤ a
  · have hda : d ≤ a := hc
    have hdab : d ≤ a + b := by omega
    have hcz : (d : Int) ≤ ((a + b : Nat) : Int) := by omega
    clear hc
    go_wp2_with (go_at_call 13; refine (num_walk _ _).mono ?_; rintro _ w9 ⟨rfl, h9⟩; obtain rfl := h9.symm; clear h9; dsimp only)
    have hW := HX0.out.wait 0 (a + b) (ST_ls d m) (by omega) (by rw [ST_now]; omega) (by omega)
    rw [HXB0.out.1, aw_st1 hdab] at hW
    refine hW.mono ?_
    rintro e u1 ⟨mv1, rfl, om, S1, h9⟩
    dsimp only at om h9
    have hbs := HX0.out.beside HY0.out HDJ.out h9
    have HP1 := Hid.of (HX0.out.st h9)
    have HO1 := Hid.of hbs.1
    have HPB1 := Hid.of (And.intro (h9.nb.trans HXB0.out.1) trivial)
    have HD1 := Hid.of (hbs.2)
    have HMX := Hid.of om
    clear h9 hW om hbs HX0 HXB0 HY0 HDJ
    dsimp only
    go_wp2_with (go_at_call 13; refine (num_walk _ _).mono ?_; rintro _ w9 ⟨rfl, h9⟩; obtain rfl := h9.symm; clear h9; dsimp only)
    have hW := HO1.out.wait 0 a (ST_ls d m) (by omega) (by rw [ST_now]; omega) (by omega)
    rw [HYB0.out.1, aw_st1 hda] at hW
    refine hW.mono ?_
    rintro e u2 ⟨mv2, rfl, om, S2, h9⟩
    dsimp only at om h9
    have hbs := HO1.out.beside HP1.out (fun x h1 h2 => HD1.out x h2 h1) h9
    have HP2 := Hid.of (HO1.out.st h9)
    have HO2 := Hid.of hbs.1
    have HPB2 := Hid.of (And.intro (h9.nb.trans HYB0.out.1) trivial)
    have HD2 := Hid.of (fun x h1 h2 => hbs.2 x h2 h1)
    have HMX := Hid.of (h9.ow HO1.out.ok HMX.out)
    have HMY := Hid.of om
    clear h9 hW om hbs HO1 HYB0 HP1 HD1
    dsimp only
    go_wp2_with (go_at_call 13; refine (num_walk _ _).mono ?_; rintro _ w9 ⟨rfl, h9⟩; obtain rfl := h9.symm; clear h9; dsimp only)
    refine (same_walk u2 mv1 mv2 m m (Ow.sb HMX.out) (Ow.sb HMY.out) (by omega)).mono ?_
    rintro e u3 ⟨rfl, ul⟩
    have HX3 := Hid.of (HO2.out.up' ul)
    have HY3 := Hid.of (HP2.out.up' ul)
    have HMX := Hid.of (ow_up HMX.out ul)
    have HMY := Hid.of (ow_up HMY.out ul)
    clear ul HO2 HP2
    dsimp only
    rw [show (m == m) = true by simp]
    have hNx := Now_walk u3 _ HX3.out.ok
    rw [HPB1.out.1, HX3.out.now, show (CA d [] [] false [] false []).now = d from rfl] at hNx
    have hNy := Now_walk u3 _ HY3.out.ok
    rw [HPB2.out.1, HY3.out.now, show (CA d [] [] false [] false []).now = d from rfl] at hNy
    go_wp2_with (first | (go_at_call 13; refine (num_walk _ _).mono ?_; rintro _ w9 ⟨rfl, h9⟩; obtain rfl := h9.symm; clear h9; dsimp only) | (go_at_call 16; refine hNx.mono ?_; rintro _ w9 ⟨rfl, h9⟩; obtain rfl := h9.symm; clear h9; dsimp only) | (go_at_call 16; refine hNy.mono ?_; rintro _ w9 ⟨rfl, h9⟩; obtain rfl := h9.symm; clear h9; dsimp only))
    clear hNx hNy
    go_wp2_with (go_at_call 13; refine (num_walk _ _).mono ?_; rintro _ w9 ⟨rfl, h9⟩; obtain rfl := h9.symm; clear h9; dsimp only)
    refine (same_walk u3 mv1 (.slice ua m.length uc) m m (Ow.sb HMX.out) (HD.out.up HX3.out.up) (by omega)).mono ?_
    rintro e u4 ⟨rfl, ul⟩
    have HX4 := Hid.of (HX3.out.up' ul)
    have HY4 := Hid.of (HY3.out.up' ul)
    clear ul HX3 HY3
    dsimp only
    rw [show (m == m) = true by simp]
    have hNx := Now_walk u4 _ HX4.out.ok
    rw [HPB1.out.1, HX4.out.now, show (CA d [] [] false [] false []).now = d from rfl] at hNx
    go_wp2_with (first | (go_at_call 13; refine (num_walk _ _).mono ?_; rintro _ w9 ⟨rfl, h9⟩; obtain rfl := h9.symm; clear h9; dsimp only) | (go_at_call 16; refine hNx.mono ?_; rintro _ w9 ⟨rfl, h9⟩; obtain rfl := h9.symm; clear h9; dsimp only))
    go_ret
    exact ⟨by simp, HX4.out.up⟩
  · by_cases hc2 : d ≤ a + b
    · have hda : ¬ d ≤ a := hc
      have hdab : d ≤ a + b := hc2
      have hcz : (d : Int) ≤ ((a + b : Nat) : Int) := by omega
      clear hc hc2
      go_wp2_with (go_at_call 13; refine (num_walk _ _).mono ?_; rintro _ w9 ⟨rfl, h9⟩; obtain rfl := h9.symm; clear h9; dsimp only)
      have hW := HX0.out.wait 0 (a + b) (ST_ls d m) (by omega) (by rw [ST_now]; omega) (by omega)
      rw [HXB0.out.1, aw_st1 hdab] at hW
      refine hW.mono ?_
      rintro e u1 ⟨mv1, rfl, om, S1, h9⟩
      dsimp only at om h9
      have hbs := HX0.out.beside HY0.out HDJ.out h9
      have HP1 := Hid.of (HX0.out.st h9)
      have HO1 := Hid.of hbs.1
      have HPB1 := Hid.of (And.intro (h9.nb.trans HXB0.out.1) trivial)
      have HD1 := Hid.of (hbs.2)
      have HMX := Hid.of om
      clear h9 hW om hbs HX0 HXB0 HY0 HDJ
      dsimp only
      go_wp2_with (go_at_call 13; refine (num_walk _ _).mono ?_; rintro _ w9 ⟨rfl, h9⟩; obtain rfl := h9.symm; clear h9; dsimp only)
      have hW := HO1.out.wait 0 a (ST_ls d m) (by omega) (by rw [ST_now]; omega) (by omega)
      rw [HYB0.out.1, aw_st2 (by omega : a < d)] at hW
      refine hW.mono ?_
      rintro e u2 ⟨mv2, rfl, om, S2, h9⟩
      dsimp only at om h9
      have hbs := HO1.out.beside HP1.out (fun x h1 h2 => HD1.out x h2 h1) h9
      have HP2 := Hid.of (HO1.out.st h9)
      have HO2 := Hid.of hbs.1
      have HPB2 := Hid.of (And.intro (h9.nb.trans HYB0.out.1) trivial)
      have HD2 := Hid.of (fun x h1 h2 => hbs.2 x h2 h1)
      have HMX := Hid.of (h9.ow HO1.out.ok HMX.out)
      clear h9 hW om hbs HO1 HYB0 HP1 HD1
      dsimp only
      have hNy := Now_walk u2 _ HP2.out.ok
      rw [HPB2.out.1, HP2.out.now, show (CA a [] [] false [] false [(d, 0, m)]).now = a from rfl] at hNy
      go_wp2_with (first | (go_at_call 13; refine (num_walk _ _).mono ?_; rintro _ w9 ⟨rfl, h9⟩; obtain rfl := h9.symm; clear h9; dsimp only) | (go_at_call 16; refine hNy.mono ?_; rintro _ w9 ⟨rfl, h9⟩; obtain rfl := h9.symm; clear h9; dsimp only))
      clear hNy
      go_wp2_with (go_at_call 13; refine (num_walk _ _).mono ?_; rintro _ w9 ⟨rfl, h9⟩; obtain rfl := h9.symm; clear h9; dsimp only)
      have hW := HP2.out.wait 0 b rfl (by omega) (by show a ≤ _; omega) (by omega)
      rw [HPB2.out.1, aw_ca1 (by omega : a < d) hdab] at hW
      refine hW.mono ?_
      rintro e u3 ⟨mv3, rfl, om, S3, h9⟩
      dsimp only at om h9
      have hbs := HP2.out.beside HO2.out (fun x h1 h2 => HD2.out x h2 h1) h9
      have HP3 := Hid.of (HP2.out.st h9)
      have HO3 := Hid.of hbs.1
      have HPB3 := Hid.of (And.intro (h9.nb.trans HPB2.out.1) trivial)
      have HD3 := Hid.of (fun x h1 h2 => hbs.2 x h2 h1)
      have HMX := Hid.of (h9.ow HP2.out.ok HMX.out)
      have HMY := Hid.of om
      clear h9 hW om hbs HP2 HPB2 HO2 HD2
      dsimp only
      go_wp2_with (go_at_call 13; refine (num_walk _ _).mono ?_; rintro _ w9 ⟨rfl, h9⟩; obtain rfl := h9.symm; clear h9; dsimp only)
      refine (same_walk u3 mv1 mv3 m m (Ow.sb HMX.out) (Ow.sb HMY.out) (by omega)).mono ?_
      rintro e u4 ⟨rfl, ul⟩
      have HX4 := Hid.of (HO3.out.up' ul)
      have HY4 := Hid.of (HP3.out.up' ul)
      have HMX := Hid.of (ow_up HMX.out ul)
      have HMY := Hid.of (ow_up HMY.out ul)
      clear ul HO3 HP3
      dsimp only
      rw [show (m == m) = true by simp]
      have hNx := Now_walk u4 _ HX4.out.ok
      rw [HPB1.out.1, HX4.out.now, show (CA d [] [] false [] false []).now = d from rfl] at hNx
      have hNy := Now_walk u4 _ HY4.out.ok
      rw [HPB3.out.1, HY4.out.now, show (CA d [] [] false [] false []).now = d from rfl] at hNy
      go_wp2_with (first | (go_at_call 13; refine (num_walk _ _).mono ?_; rintro _ w9 ⟨rfl, h9⟩; obtain rfl := h9.symm; clear h9; dsimp only) | (go_at_call 16; refine hNx.mono ?_; rintro _ w9 ⟨rfl, h9⟩; obtain rfl := h9.symm; clear h9; dsimp only) | (go_at_call 16; refine hNy.mono ?_; rintro _ w9 ⟨rfl, h9⟩; obtain rfl := h9.symm; clear h9; dsimp only))
      clear hNx hNy
      go_wp2_with (go_at_call 13; refine (num_walk _ _).mono ?_; rintro _ w9 ⟨rfl, h9⟩; obtain rfl := h9.symm; clear h9; dsimp only)
      refine (same_walk u4 mv1 (.slice ua m.length uc) m m (Ow.sb HMX.out) (HD.out.up HX4.out.up) (by omega)).mono ?_
      rintro e u5 ⟨rfl, ul⟩
      have HX5 := Hid.of (HX4.out.up' ul)
      have HY5 := Hid.of (HY4.out.up' ul)
      clear ul HX4 HY4
      dsimp only
      rw [show (m == m) = true by simp]
      have hNx := Now_walk u5 _ HX5.out.ok
      rw [HPB1.out.1, HX5.out.now, show (CA d [] [] false [] false []).now = d from rfl] at hNx
      go_wp2_with (first | (go_at_call 13; refine (num_walk _ _).mono ?_; rintro _ w9 ⟨rfl, h9⟩; obtain rfl := h9.symm; clear h9; dsimp only) | (go_at_call 16; refine hNx.mono ?_; rintro _ w9 ⟨rfl, h9⟩; obtain rfl := h9.symm; clear h9; dsimp only))
      go_ret
      exact ⟨by simp, HX5.out.up⟩
    · have hdab : ¬ d ≤ a + b := hc2
      have hcz : ¬ (d : Int) ≤ ((a + b : Nat) : Int) := by omega
      have hcz2 : ¬ (d : Int) ≤ (a : Int) + (b : Int) := by omega
      clear hc hc2
      go_wp2_with (go_at_call 13; refine (num_walk _ _).mono ?_; rintro _ w9 ⟨rfl, h9⟩; obtain rfl := h9.symm; clear h9; dsimp only)
      have hW := HX0.out.wait 0 (a + b) (ST_ls d m) (by omega) (by rw [ST_now]; omega) (by omega)
      rw [HXB0.out.1, aw_st2 (by omega : a + b < d)] at hW
      refine hW.mono ?_
      rintro e u1 ⟨mv1, rfl, om, S1, h9⟩
      dsimp only at om h9
      have hbs := HX0.out.beside HY0.out HDJ.out h9
      have HP1 := Hid.of (HX0.out.st h9)
      have HO1 := Hid.of hbs.1
      have HPB1 := Hid.of (And.intro (h9.nb.trans HXB0.out.1) trivial)
      have HD1 := Hid.of (hbs.2)
      have HMX := Hid.of om
      clear h9 hW om hbs HX0 HXB0 HY0 HDJ
      dsimp only
      go_wp2_with (go_at_call 13; refine (num_walk _ _).mono ?_; rintro _ w9 ⟨rfl, h9⟩; obtain rfl := h9.symm; clear h9; dsimp only)
      have hW := HO1.out.wait 0 a (ST_ls d m) (by omega) (by rw [ST_now]; omega) (by omega)
      rw [HYB0.out.1, aw_st2 (by omega : a < d)] at hW
      refine hW.mono ?_
      rintro e u2 ⟨mv2, rfl, om, S2, h9⟩
      dsimp only at om h9
      have hbs := HO1.out.beside HP1.out (fun x h1 h2 => HD1.out x h2 h1) h9
      have HP2 := Hid.of (HO1.out.st h9)
      have HO2 := Hid.of hbs.1
      have HPB2 := Hid.of (And.intro (h9.nb.trans HYB0.out.1) trivial)
      have HD2 := Hid.of (fun x h1 h2 => hbs.2 x h2 h1)
      have HMX := Hid.of (h9.ow HO1.out.ok HMX.out)
      clear h9 hW om hbs HO1 HYB0 HP1 HD1
      dsimp only
      have hNy := Now_walk u2 _ HP2.out.ok
      rw [HPB2.out.1, HP2.out.now, show (CA a [] [] false [] false [(d, 0, m)]).now = a from rfl] at hNy
      go_wp2_with (first | (go_at_call 13; refine (num_walk _ _).mono ?_; rintro _ w9 ⟨rfl, h9⟩; obtain rfl := h9.symm; clear h9; dsimp only) | (go_at_call 16; refine hNy.mono ?_; rintro _ w9 ⟨rfl, h9⟩; obtain rfl := h9.symm; clear h9; dsimp only))
      clear hNy
      go_wp2_with (go_at_call 13; refine (num_walk _ _).mono ?_; rintro _ w9 ⟨rfl, h9⟩; obtain rfl := h9.symm; clear h9; dsimp only)
      have hW := HP2.out.wait 0 b rfl (by omega) (by show a ≤ _; omega) (by omega)
      rw [HPB2.out.1, aw_ca2 (by omega : a + b < d)] at hW
      refine hW.mono ?_
      rintro e u3 ⟨mv3, rfl, om, S3, h9⟩
      dsimp only at om h9
      have hbs := HP2.out.beside HO2.out (fun x h1 h2 => HD2.out x h2 h1) h9
      have HP3 := Hid.of (HP2.out.st h9)
      have HO3 := Hid.of hbs.1
      have HPB3 := Hid.of (And.intro (h9.nb.trans HPB2.out.1) trivial)
      have HD3 := Hid.of (fun x h1 h2 => hbs.2 x h2 h1)
      have HMX := Hid.of (h9.ow HP2.out.ok HMX.out)
      have HMY := Hid.of om
      clear h9 hW om hbs HP2 HPB2 HO2 HD2
      dsimp only
      go_wp2_with (go_at_call 13; refine (num_walk _ _).mono ?_; rintro _ w9 ⟨rfl, h9⟩; obtain rfl := h9.symm; clear h9; dsimp only)
      refine (same_walk u3 mv1 mv3 [] [] (Ow.sb HMX.out) (Ow.sb HMY.out) (by simp)).mono ?_
      rintro e u4 ⟨rfl, ul⟩
      have HX4 := Hid.of (HO3.out.up' ul)
      have HY4 := Hid.of (HP3.out.up' ul)
      have HMX := Hid.of (ow_up HMX.out ul)
      have HMY := Hid.of (ow_up HMY.out ul)
      clear ul HO3 HP3
      dsimp only
      rw [show (([] : List UInt8) == []) = true by simp]
      obtain ⟨xa, xc, hxv, _⟩ := Ow.sb HMX.out
      subst hxv
      have hNx := Now_walk u4 _ HX4.out.ok
      rw [HPB1.out.1, HX4.out.now, show (CA (a + b) [] [] false [] false [(d, 0, m)]).now = a + b from rfl] at hNx
      have hNy := Now_walk u4 _ HY4.out.ok
      rw [HPB3.out.1, HY4.out.now, show (CA (a + b) [] [] false [] false [(d, 0, m)]).now = a + b from rfl] at hNy
      go_wp2_with (first | (go_at_call 13; refine (num_walk _ _).mono ?_; rintro _ w9 ⟨rfl, h9⟩; obtain rfl := h9.symm; clear h9; dsimp only) | (go_at_call 16; refine hNx.mono ?_; rintro _ w9 ⟨rfl, h9⟩; obtain rfl := h9.symm; clear h9; dsimp only) | (go_at_call 16; refine hNy.mono ?_; rintro _ w9 ⟨rfl, h9⟩; obtain rfl := h9.symm; clear h9; dsimp only))
      clear hNx hNy
      go_wp2_with (go_at_call 13; refine (num_walk _ _).mono ?_; rintro _ w9 ⟨rfl, h9⟩; obtain rfl := h9.symm; clear h9; dsimp only)
      refine (same_walk u4 (.slice xa ([] : List UInt8).length xc) (.slice ua m.length uc) [] m (Ow.sb HMX.out) (HD.out.up HX4.out.up) (by simp)).mono ?_
      rintro e u5 ⟨rfl, ul⟩
      have HX5 := Hid.of (HX4.out.up' ul)
      have HY5 := Hid.of (HY4.out.up' ul)
      clear ul HX4 HY4
      dsimp only
      have hNx := Now_walk u5 _ HX5.out.ok
      rw [HPB1.out.1, HX5.out.now, show (CA (a + b) [] [] false [] false [(d, 0, m)]).now = a + b from rfl] at hNx
      go_wp2_with (first | (go_at_call 13; refine (num_walk _ _).mono ?_; rintro _ w9 ⟨rfl, h9⟩; obtain rfl := h9.symm; clear h9; dsimp only) | (go_at_call 16; refine hNx.mono ?_; rintro _ w9 ⟨rfl, h9⟩; obtain rfl := h9.symm; clear h9; dsimp only))
      go_ret
      exact ⟨by simp, HX5.out.up⟩
end Go.Proofs.Ytimmpobpfgdncaa
