import Derived.Test.YteijccjdejjbjaaDo
import Derived.Test.YteijccjdejjbjaaFm0
import Derived.Test.YteijccjdejjbjaaEng
namespace Go.Proofs.Yteijccjdejjbjaa
open Go.RowKit Go.Shelf ScalarNum

/-- a slice of 257 digits -/
def DS (k X : Nat) (v : Value) (w : World) : Prop := ∃ g, v = .slice (some ⟨g, 0, none⟩) 257 257 ∧ w.rangeAt g 0 (dl k X 257)
theorem DS.grown {k X : Nat} {v : Value} {w w' : World} (h : DS k X v w) (hg : Grown w w') : DS k X v w' := by
  obtain ⟨g, rfl, hr⟩ := h
  exact ⟨g, rfl, rangeAt_grown hr hg⟩

set_option maxRecDepth 100000 in
set_option maxHeartbeats 1000000 in
theorem Digits_bad (X : Nat) (z : Int) (hz : z < 2 ∨ 8 < z) (w : World) :
    Calls Try.prog 7 #[yv 32 X, .int .i64 z] w fun e w' => e = .returned (.tuple #[.slice none 0 0, .int .i64 1]) ∧ Grown w w' := by
  have h0 : Grown w (w.alloc (.cells (yl 32 X).toArray 22)) := Grown.alloc (Grown.refl _) _ _
  have H0 := Hid.of h0
  clear h0
  rw [yv]
  by_cases h : z < 2
  · clear hz
    go_enter Try.func7, Try.ntmps7
    go_wp2
    go_ret2
    exact ⟨rfl, H0.out⟩
  · have h2 : z > 8 := hz.resolve_left h
    clear hz
    go_enter Try.func7, Try.ntmps7
    go_wp2
    go_ret2
    exact ⟨rfl, H0.out⟩

set_option maxRecDepth 100000 in
set_option maxHeartbeats 1000000 in
theorem Digits_num (X k : Nat) (hX : X < M) (hk : 2 ≤ k) (hk8 : k ≤ 8) (w : World) :
    Calls Try.prog 7 #[yv 32 X, .int .i64 (k : Int)] w fun e w' => (∃ v, e = .returned (.tuple #[v, .int .i64 0]) ∧ DS k X v w') ∧ Grown w w' := by
  have h0 : (w.alloc (.cells (yl 32 X).toArray 22)).rangeAt w.heap.size 0 (yl 32 X) ∧ Grown w (w.alloc (.cells (yl 32 X).toArray 22)) := ⟨rangeAt_alloc_new w 22 (yl 32 X), Grown.alloc (Grown.refl _) _ _⟩
  have b1 : ¬ (k : Int) < 2 := by omega
  have b2 : ¬ (8 : Int) < (k : Int) := by omega
  rw [yv]
  go_enter Try.func7, Try.ntmps7
  go_wp2_with (with_reducible show wpList _ _ _ ({ dst := _, op := Op.load 22 _, type := _, pos := _, after := _, guard := _ } :: _) _ _; refine Shut.out ?_)
  show wpList _ _ _ _ _ _
  generalize (w.alloc (.cells (yl 32 X).toArray 22)) = W0 at *
  have H0 := Hid.of h0
  clear h0
  refine wpList_load32 rfl _ rfl w.heap.size rfl X H0.out.1 ?_
  simp only [Act.put, List.setIfInBounds_toArray, List.set_cons_zero, List.set_cons_succ]
  go_wp2_with fail
  refine Calls.mono (load_num X hX _) ?_
  rintro e w1 ⟨rfl, g1⟩
  dsimp only
  go_wp2_with fail
  refine Calls.mono (digitsOf_num X k hX hk hk8 _) ?_
  rintro e w2 ⟨⟨g, rfl, hg, hr, ht⟩, g2⟩
  dsimp only
  have H2 := Hid.of (And.intro hr (grown_trans H0.out.2 (grown_trans g1 g2)))
  clear hr ht hg g1 g2 H0
  go_wp2
  go_ret2
  exact ⟨⟨_, rfl, g, rfl, H2.out.1⟩, H2.out.2⟩

theorem end_zero {X j : Nat} (h : X < 2 ^ 256) (hj : 257 ≤ j) : X / 2 ^ j = 0 := Nat.div_eq_of_lt (Nat.lt_of_lt_of_le h (Nat.pow_le_pow_right (by decide) (by omega)))
theorem i8_w64 {d : Int} (h : -128 ≤ d ∧ d ≤ 127) : wrap64 d = d ∧ IntKind.i64.wrap d = d := by
  rw [IntKind.wrap_i64]; unfold wrap64; omega
theorem w64s (q : Nat) (h : q < 256) : wrap64 (q : Int) = (q : Int) := by unfold wrap64; omega
theorem tmod2 (q : Nat) : (q : Int).tmod 2 = ((q % 2 : Nat) : Int) := by rw [Int.tmod_eq_emod_of_nonneg (by omega)]; omega
theorem add_bounds {c d : Int} {b : Nat} (hc : -256 ≤ c ∧ c ≤ 256) (hd : -128 ≤ d ∧ d ≤ 127) (hb : b ≤ 1) : -384 ≤ c + d ∧ c + d ≤ 383 ∧ -385 ≤ c + d - (b : Int) ∧ c + d - (b : Int) ≤ 383 ∧ IntKind.i64.wrap (c + d) = c + d ∧ IntKind.i64.wrap (c + d - (b : Int)) = c + d - (b : Int) := by
  rw [IntKind.wrap_i64, IntKind.wrap_i64]; omega

set_option maxRecDepth 100000 in
set_option maxHeartbeats 1000000 in
theorem adds_num (g X k : Nat) (hX : X < M) (hk : 2 ≤ k) (hk8 : k ≤ 8) (w : World) (hr : w.rangeAt g 0 (dl k X 257)) :
    Calls Try.prog 8 #[.slice (some ⟨g, 0, none⟩) 257 257, yv 32 X] w fun e w' => e = .returned (.bool true) ∧ Grown w w' := by
  have hX2 : X < 2 ^ 256 := by rw [← M_256]; exact hX
  have g0 : Grown w (w.alloc (.cells (yl 32 X).toArray 22)) := Grown.alloc (Grown.refl _) _ _
  have h0 := Hid.of (show (w.alloc (.cells (yl 32 X).toArray 22)).rangeAt w.heap.size 0 (yl 32 X) ∧ (w.alloc (.cells (yl 32 X).toArray 22)).rangeAt g 0 (dl k X 257) ∧ Grown w (w.alloc (.cells (yl 32 X).toArray 22)) from ⟨rangeAt_alloc_new w 22 (yl 32 X), rangeAt_grown hr g0, g0⟩)
  have HX := Hid.of (And.intro hX hX2)
  clear g0 hr hX hX2
  rw [yv]
  go_enter Try.func8, Try.ntmps8
  go_wp2
  generalize (w.alloc (.cells (yl 32 X).toArray 22)) = W0 at *
  go_loopw [5, 6] (fun v5 v6 wr => ∃ (i : Nat) (c : Int), v6 = .int .i64 (i : Int) ∧ v5 = .int .i64 c ∧ i ≤ 257 ∧ c = ((X / 2 ^ i : Nat) : Int) - ((nn k X i : Nat) : Int) ∧ (-256 ≤ c ∧ c ≤ 256) ∧ wr = W0) (fun _ v6 _ => 257 - (intOf v6).toNat)
  case atStart => exact ⟨0, 0, rfl, rfl, by decide, by show (0 : Int) = ((X / 2 ^ 0 : Nat) : Int) - (X : Int); rw [Nat.pow_zero, Nat.div_one, Int.sub_self], by decide, rfl⟩
  case round =>
    obtain ⟨i, c, rfl, rfl, hi, hc, hb, rfl⟩ := hrel
    by_cases hlt : i < 257
    · have b1 : (i : Int) < 257 := Int.ofNat_lt.2 hlt
      have hd := dn_i8 (X := X) (i := i) hk hk8
      have d1 : wr.cell? ⟨g, i, none⟩ = some (.int .i8 (dn k X i)) := by
        have := h0.out.2.1 i _ (dl_get k X 257 i hlt); rwa [Nat.zero_add, if_pos hlt] at this
      obtain ⟨s1, s2, s3, s4⟩ := adds_step (nn_step k X i (by omega)) hc hb ⟨hd.1, by omega⟩
      obtain ⟨q1, q2, q3, q4, q5, q6⟩ := add_bounds hb hd s4
      obtain ⟨w1, w2⟩ := i8_w64 hd
      have HC := Hid.of (show ((X / 2 ^ (i + 1) : Nat) : Int) - ((nn k X (i + 1) : Nat) : Int) = ((X / 2 ^ (i + 1) : Nat) : Int) - ((nn k X (i + 1) : Nat) : Int) from rfl)
      generalize hc2 : ((X / 2 ^ (i + 1) : Nat) : Int) - ((nn k X (i + 1) : Nat) : Int) = c2 at *
      have HC2 := Hid.of hc2
      clear hc2 HC hc
      have t1 := tmod_two c2
      have t2 := tdiv_two c2
      generalize dn k X i = d at *
      by_cases h6 : i < 256
      · have b2 : (i : Int) < 256 := Int.ofNat_lt.2 h6
        have c1 : wr.cell? ⟨w.heap.size, i / 8, none⟩ = some (.int .u8 (dg 256 X (i / 8) : Nat)) := by
          have := h0.out.1 (i / 8) _ (yl_get 32 X (i / 8) (by omega)); rwa [Nat.zero_add] at this
        have hbb := bit_byte X i
        have hd8 : dg 256 X (i / 8) < 256 := dg_lt (by decide)
        generalize dg 256 X (i / 8) = bt at *
        have hq8 : bt / 2 ^ (i % 8) < 256 := Nat.lt_of_le_of_lt (Nat.div_le_self _ _) hd8
        have eq1 : (bt : Int) / 2 ^ (i % 8) = ((bt / 2 ^ (i % 8) : Nat) : Int) := by simp
        generalize bt / 2 ^ (i % 8) = q at *
        have eq2 := w64s q hq8
        have eq3 : (q : Int).tmod 2 = ((X / 2 ^ i % 2 : Nat) : Int) := by rw [← hbb]; exact tmod2 q
        clear hbb hd8 hq8
        generalize X / 2 ^ i % 2 = bit at *
        obtain ⟨s, es⟩ : ∃ s, c + d = s := ⟨_, rfl⟩
        rw [es] at s1 q1 q2 q3 q4 q5 q6
        obtain ⟨u, eu⟩ : ∃ u, s - (bit : Int) = u := ⟨_, rfl⟩
        rw [eu] at s1 q3 q4 q6
        rw [← s1] at t1 t2
        clear s1
        go_wp2
        go_roundw
        case rel => exact ⟨i + 1, c2, by go_num, rfl, hlt, HC2.out.symm, ⟨s2, s3⟩, by first | rfl | trivial⟩
        case measure => simp [intOf]; omega
      · have hi6 : i = 256 := by omega
        subst hi6
        rw [show X / 2 ^ 256 % 2 = 0 from by rw [Nat.div_eq_of_lt HX.out.2]] at s1 q3 q4 q6
        rw [show ((0 : Nat) : Int) = 0 from rfl, Int.sub_zero] at s1 q3 q4 q6
        obtain ⟨s, es⟩ : ∃ s, c + d = s := ⟨_, rfl⟩
        rw [es] at s1 q1 q2 q3 q4 q5 q6
        rw [← s1] at t1 t2
        clear s1
        go_wp2
        go_roundw
        case rel => exact ⟨256 + 1, c2, rfl, rfl, by decide, HC2.out.symm, ⟨s2, s3⟩, by first | rfl | trivial⟩
        case measure => simp [intOf]
    · have hi7 : i = 257 := by omega
      have hc0 : c = 0 := by
        have e1 := end_zero (j := i) HX.out.2 (Nat.le_of_not_lt hlt)
        have e2 : nn k X i = 0 := by rw [hi7]; exact nn_end hk HX.out.2
        rw [hc, e1, e2]; rfl
      clear hc
      subst hi7
      subst hc0
      clear hb
      go_wp2
      go_ret
      exact ⟨rfl, h0.out.2.2⟩
end Go.Proofs.Yteijccjdejjbjaa
