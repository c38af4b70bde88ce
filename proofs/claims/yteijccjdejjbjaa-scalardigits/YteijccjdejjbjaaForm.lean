import Derived.Test.YteijccjdejjbjaaDt
namespace Go.Proofs.Yteijccjdejjbjaa
open Go.RowKit Go.Shelf ScalarNum

theorem half_bounds {k : Nat} (hk : 2 ≤ k) (hk8 : k ≤ 8) {i : Nat} (hi : 1 ≤ i) (hik : i ≤ k) : 2 * ((2 ^ (i - 1) : Nat) : Int) = ((2 ^ (i + 1 - 1) : Nat) : Int) ∧ 2 ^ (i - 1) ≤ 128 ∧ 2 ^ (i + 1 - 1) ≤ 256 := by
  have h1 : 2 ^ (i - 1) ≤ 2 ^ 7 := Nat.pow_le_pow_right (by decide) (by omega)
  have e : 2 ^ (i + 1 - 1) = 2 * 2 ^ (i - 1) := by rw [← Nat.pow_succ']; congr 1; omega
  rw [e]
  generalize 2 ^ (i - 1) = H at *
  omega

theorem wpList_load32G {ops : Array Oper} {rest : List Oper} {op : Oper} {a : Act} {w : World} {Q : Exit → Act → World → Prop} (hw : Region.wanted op (yielded ops a.tmps) = true) (x : Operand) (ho : op.op = .load 22 x)
    (b : Nat) (hx : a.eval x = .pointer (some ⟨b, 0, none⟩)) (n : Nat) (hc : w.rangeAt b 0 (yl 32 n))
    (h : wpList Try.prog ops Q rest (a.put op.dst (yv 32 n)) w) : wpList Try.prog ops Q (op :: rest) a w :=
  wpList_step fun _ hK => by
    rw [if_pos hw]
    exact wp_load_mid 22 x ho b 0 hx (yl 32 n) _ hc Try.underlying22 rfl (by rw [yl_length]; exact info32) (hK _ _ h)

set_option maxRecDepth 100000 in
set_option maxHeartbeats 2000000 in
theorem form_good (X k : Nat) (hX : X < M) (hk : 2 ≤ k) (hk8 : k ≤ 8) (w : World) :
    Calls Try.prog 4 #[yv 32 X, .int .i64 (k : Int)] w fun e w' => e = .returned (.bool true) ∧ Grown w w' := by
  have h0 : (w.alloc (.cells (yl 32 X).toArray 22)).rangeAt w.heap.size 0 (yl 32 X) ∧ Grown w (w.alloc (.cells (yl 32 X).toArray 22)) := ⟨rangeAt_alloc_new w 22 (yl 32 X), Grown.alloc (Grown.refl _) _ _⟩
  have b1 : ¬ (k : Int) < 2 := by omega
  have b2 : ¬ (8 : Int) < (k : Int) := by omega
  rw [yv]
  go_enter Try.func4, Try.ntmps4
  go_wp2_with (with_reducible show wpList _ _ _ ({ dst := _, op := Op.load 22 _, type := _, pos := _, after := _, guard := _ } :: _) _ _; refine Shut.out ?_)
  show wpList _ _ _ _ _ _
  generalize (w.alloc (.cells (yl 32 X).toArray 22)) = W0 at *
  have H0 := Hid.of h0
  clear h0
  refine wpList_load32 rfl _ rfl w.heap.size rfl X H0.out.1 ?_
  simp only [Act.put, List.setIfInBounds_toArray, List.set_cons_zero, List.set_cons_succ]
  go_wp2_with fail
  refine Calls.mono (Digits_num X k hX hk hk8 _) ?_
  rintro e w1 ⟨⟨v, rfl, g, rfl, hr⟩, g1⟩
  dsimp only
  have H1 := Hid.of (And.intro (rangeAt_grown H0.out.1 g1) (And.intro hr (grown_trans H0.out.2 g1)))
  clear H0 g1 hr
  go_wp2_with (with_reducible show wpList _ _ _ ({ dst := _, op := Op.load 22 _, type := _, pos := _, after := _, guard := _ } :: _) _ _; refine Shut.out ?_)
  show wpList _ _ _ _ _ _
  refine wpList_load32G (by rfl) _ rfl w.heap.size rfl X H1.out.1 ?_
  simp only [Act.put, List.setIfInBounds_toArray, List.set_cons_zero, List.set_cons_succ]
  refine wpList_step (fun K hK => ?_)
  rw [if_pos (by rfl)]
  go_simp
  refine Calls.mono (adds_num g X k hX hk hk8 _ H1.out.2.1) ?_
  rintro e w2 ⟨rfl, g2⟩
  dsimp only
  refine hK _ _ ?_
  clear hK K
  have H2 := Hid.of (And.intro (rangeAt_grown H1.out.2.1 g2) (grown_trans H1.out.2.2 g2))
  clear H1 g2
  go_wp2
  go_loopw [7, 8] (fun v7 v8 wr => ∃ i : Nat, v8 = .int .i64 (i : Int) ∧ v7 = .int .i64 ((2 ^ (i - 1) : Nat) : Int) ∧ 1 ≤ i ∧ i ≤ k ∧ wr = w2) (fun _ v8 _ => k - (intOf v8).toNat)
  case atStart => exact ⟨1, rfl, rfl, by decide, by omega, rfl⟩
  case round =>
    obtain ⟨i, rfl, rfl, hi0, hik, hwr⟩ := hrel
    have HW := Hid.of hwr
    clear hwr
    obtain ⟨p1, p2, p3⟩ := half_bounds hk hk8 hi0 hik
    by_cases hlt : i < k
    · have b3 : (i : Int) < (k : Int) := Int.ofNat_lt.2 hlt
      have hN := Hid.of (show 2 ^ (i + 1 - 1) = 2 ^ (i + 1 - 1) from rfl)
      generalize h2 : 2 ^ (i + 1 - 1) = H2' at *
      have HH := Hid.of h2
      clear h2 hN
      generalize 2 ^ (i - 1) = H1' at *
      go_wp2
      go_roundw
      case rel => exact ⟨i + 1, by go_num, by rw [HH.out], by omega, by omega, HW.out⟩
      case measure => simp [intOf]; omega
    · have hik2 : i = k := by omega
      subst hik2
      clear p1 p3 hi0 hik hlt
      have HP := Hid.of (show 2 ^ (i - 1) = 2 ^ (i - 1) from rfl)
      generalize hH : 2 ^ (i - 1) = H at *
      have HH := Hid.of hH
      clear hH HP
      go_wp2
      go_loopw [9, 10] (fun v9 v10 wr => ∃ (j : Nat) (la : Int), v10 = .int .i64 (j : Int) ∧ v9 = .int .i64 la ∧ j ≤ 257 ∧ (-8 ≤ la ∧ la < (j : Int)) ∧ Zs i X j la ∧ wr = w2) (fun _ v10 _ => 257 - (intOf v10).toNat)
      case atStart => exact ⟨0, -(i : Int), rfl, rfl, by decide, by omega, Zs_start i X, HW.out⟩
      case round =>
        obtain ⟨j, la, rfl, rfl, hj, hla, hZ, hwr⟩ := hrel
        subst hwr
        clear HW
        have HZ := Hid.of hZ
        clear hZ
        by_cases hjt : j < 257
        · have b3 : (j : Int) < 257 := Int.ofNat_lt.2 hjt
          have hd := dn_i8 (X := X) (i := j) hk hk8
          obtain ⟨e1, e2⟩ := i8_w64 hd
          have d1 : wr.cell? ⟨g, j, none⟩ = some (.int .i8 (dn i X j)) := by
            have := H2.out.1 j _ (dl_get i X 257 j hjt); rwa [Nat.zero_add, if_pos hjt] at this
          by_cases hz : dn i X j = 0
          · have HN := Hid.of (Zs_even (by omega) HZ.out hz)
            rw [hz] at d1
            clear hz hd e1 e2 HZ
            go_wp2
            go_roundw
            case rel => exact ⟨j + 1, la, by go_num, rfl, by omega, by omega, HN.out, by first | rfl | trivial⟩
            case measure => simp [intOf]; omega
          · have HN := Hid.of (Zs_odd (X := X) (i := j) (k := i) (by omega) hz)
            have hgap := Zs_gap (by omega) HZ.out hz
            obtain ⟨o1, o2, o3⟩ := dn_within hk hz
            have o4 := tmod_odd o1
            rw [HH.out] at o2 o3
            clear HZ
            generalize dn i X j = d at *
            clear o1
            go_wp2
            go_roundw
            case rel => exact ⟨j + 1, (j : Int), by go_num, rfl, by omega, by omega, HN.out, by first | rfl | trivial⟩
            case measure => simp [intOf]; omega
        · have hj7 : j = 257 := by omega
          subst hj7
          clear HZ
          go_wp2
          go_ret
          exact ⟨rfl, H2.out.2⟩

set_option maxRecDepth 100000 in
set_option maxHeartbeats 2000000 in
theorem form_bad (X : Nat) (z : Int) (hz : z < 2 ∨ 8 < z) (w : World) :
    Calls Try.prog 4 #[yv 32 X, .int .i64 z] w fun e w' => e = .returned (.bool true) ∧ Grown w w' := by
  have h0 : (w.alloc (.cells (yl 32 X).toArray 22)).rangeAt w.heap.size 0 (yl 32 X) ∧ Grown w (w.alloc (.cells (yl 32 X).toArray 22)) := ⟨rangeAt_alloc_new w 22 (yl 32 X), Grown.alloc (Grown.refl _) _ _⟩
  rw [yv]
  go_enter Try.func4, Try.ntmps4
  go_wp2_with (with_reducible show wpList _ _ _ ({ dst := _, op := Op.load 22 _, type := _, pos := _, after := _, guard := _ } :: _) _ _; refine Shut.out ?_)
  show wpList _ _ _ _ _ _
  generalize (w.alloc (.cells (yl 32 X).toArray 22)) = W0 at *
  have H0 := Hid.of h0
  clear h0
  refine wpList_load32 rfl _ rfl w.heap.size rfl X H0.out.1 ?_
  simp only [Act.put, List.setIfInBounds_toArray, List.set_cons_zero, List.set_cons_succ]
  go_wp2_with fail
  refine Calls.mono (Digits_bad X z hz _) ?_
  rintro e w1 ⟨rfl, g1⟩
  dsimp only
  have H1 := Hid.of (grown_trans H0.out.2 g1)
  clear H0 g1
  by_cases h : z < 2
  · clear hz
    go_wp2
    go_ret
    exact ⟨rfl, H1.out⟩
  · have h2 : z > 8 := hz.resolve_left h
    clear hz
    go_wp2
    go_ret
    exact ⟨rfl, H1.out⟩

theorem form_walk (X : Nat) (z : Int) (hX : X < M) (w : World) : Calls Try.prog 4 #[yv 32 X, .int .i64 z] w fun e w' => e = .returned (.bool true) ∧ Grown w w' := by
  by_cases h : z < 2 ∨ 8 < z
  · exact form_bad X z h w
  · obtain ⟨k, rfl⟩ : ∃ k : Nat, z = (k : Int) := ⟨z.toNat, by omega⟩
    exact form_good X k hX (by omega) (by omega) w
end Go.Proofs.Yteijccjdejjbjaa
