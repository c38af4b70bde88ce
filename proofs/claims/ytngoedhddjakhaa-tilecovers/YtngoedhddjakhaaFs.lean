import Derived.Test.YtngoedhddjakhaaLc
namespace Go.Proofs.Ytngoedhddjakhaa
open Go.RowKit TileNum
/-- what Fresh answers -/
def FA (h o s : Nat) (w : World) (e : Ending) (w' : World) : Prop :=
  Up w w' ∧ if 65536 < (FL h o s).length then e = .returned (.tuple #[.slice none 0 0, .int .i64 2]) else ∃ v, e = .returned (.tuple #[v, .int .i64 0]) ∧ OwnTl w' w.heap.size v h (FL h o s)
theorem pre_le (h o s C : Nat) (hs : s ≤ C) : ∀ k, (pre h o s k).length ≤ k * C
  | 0 => by simp [pre]
  | k + 1 => by
    have h1 := pre_le h o s C hs k
    rw [pre_succ, List.length_append, mul_succ']
    by_cases hn : nd h k o < nd h k s
    · have h2 := (row_len hn).1
      have h3 := nd_le h k s
      have h4 : (nd h k s - 1) / 2 ^ h ≤ nd h k s - 1 := Nat.div_le_self _ _
      generalize (nd h k s - 1) / 2 ^ h = q at *
      generalize nd h k o / 2 ^ h = g at *
      omega
    · rw [row_no hn, List.length_nil]
      omega
theorem pre_mono (h o s k : Nat) : ∀ d, (pre h o s k).length ≤ (pre h o s (k + d)).length
  | 0 => Nat.le_refl _
  | d + 1 => by
    have := pre_mono h o s k d
    rw [← Nat.add_assoc, pre_succ, List.length_append]
    omega
theorem row_step {h l o s j : Nat} (hn : nd h l o < nd h l s) (hj : j < (nd h l s - 1) / 2 ^ h + 1 - nd h l o / 2 ^ h) : (row h l o s).take (j + 1) = (row h l o s).take j ++ [(l, nd h l o / 2 ^ h + j, wd h (nd h l s) (nd h l o / 2 ^ h + j))] := by
  rw [row_get hn (by omega), row_get hn (by omega), List.range'_concat]
  simp
theorem lt_49 {h l o s : Nat} (h1 : 1 ≤ h) (hs : s ≤ 281474976710656) (hn : nd h l o < nd h l s) : l ≤ 48 := by
  rcases Nat.lt_or_ge l 49 with h2 | h2
  · omega
  · rw [nd_far h1 hs h2] at hn
    omega
set_option maxRecDepth 100000 in
set_option maxHeartbeats 4000000 in
theorem fresh_walk (h p o s : Nat) (h1 : 1 ≤ h) (h8 : h ≤ 8) (hp : p = 2 ^ h) (hos : o ≤ s) (hs : s ≤ 281474976710656) (w : World) : Calls Try.prog 12 #[.int .i64 (h : Int), .int .i64 (o : Int), .int .i64 (s : Int)] w (FA h o s w) := by
  have HM := fun w => Hid.of (mayBe_walk h p s h1 h8 hp hs w)
  have HN := fun l w => Hid.of (nodes_walk h l s h1 h8 hs w)
  have HO := fun l w => Hid.of (nodes_walk h l o h1 h8 (by omega) w)
  have HW := fun l w => fun hl => Hid.of (news_walk h p l o s h1 h8 hp hs (by omega) hl w)
  have HH := fun l n w => Hid.of (whole_walk h p l n s h1 h8 hp hs w)
  unfold ly at HM HN HO HW HH
  have HP := Hid.of (And.intro hp h1)
  have d1 : ¬ (o : Int) < 0 := by omega
  have d2 : ¬ (s : Int) < (o : Int) := by omega
  clear hp h1
  go_enter Try.func12, Try.ntmps12
  go_wp2_with fail
  refine (HM _).out.mono ?_
  rintro e W0 ⟨rfl, u0⟩
  have HB : Hid (W0.cell? ⟨w.heap.size, 0, none⟩ = some (.int .i64 (h : Int)) ∧ W0.cell? ⟨w.heap.size, 1, none⟩ = some (.int .i64 (o : Int)) ∧ W0.cell? ⟨w.heap.size + 1, 0, none⟩ = some (.int .i64 (h : Int)) ∧ W0.cell? ⟨w.heap.size + 1, 1, none⟩ = some (.int .i64 (s : Int))) := by
    exact ⟨u0.cell (by simp), u0.cell (by simp), u0.cell (by simp), u0.cell (by simp)⟩
  have HU0 : Hid (Up w W0) := by
    refine Up.trans (show Up w _ from ?_) u0
    repeat first | exact ((Up.refl w).alloc _).alloc _ | refine Below.setCell ?_ (by simp) _
  clear u0
  dsimp only
  go_wp2_with fail
  simp only [show decide ((o : Int) < 0) = false by simp, show decide (s < o) = false by simpa using hos, Bool.or_false]
  go_loopg [10, 11, 12, 13] 49 (fun k s10 s11 _ _ wr => ∃ l : Nat, l ≤ 49 ∧ 49 - l ≤ k ∧ s11 = .int .i64 (l : Int) ∧ s10 = .int .i64 ((pre h o s l).length : Int) ∧ Hid (Up W0 wr))
  case atStart => exact ⟨0, by omega, by omega, rfl, rfl, Up.refl _⟩
  case round =>
    obtain ⟨l, hl, hk, rfl, rfl, HU1⟩ := hrel
    obtain ⟨wb, hwb⟩ : ∃ wb, wb = wr := ⟨_, rfl⟩
    subst hwb
    have HPL := Hid.of (pre_le h o s _ hs l)
    go_wp2_with fail
    refine wp_region_held_drew (S := fun w2 => Up wb w2) (by kernel_rfl) (Up.refl _).drew (fun hS => ?_)
    refine wpAnyH_take (i := 0) (oi := { dst := some 37, op := Go.Op.load 80 (Go.Operand.tmp 9), type := 80, pos := "fresh.go:18", after := #[], guard := none }) (v := .agg #[.int .i64 (h : Int), .int .i64 (s : Int)]) rfl (by kernel_rfl) (by kernel_rfl) (by kernel_rfl) (fun _ _ _ h => h) (Or.inl ⟨by kernel_rfl, ?_⟩) hS ?_
    · intro w5 hSw
      have h0 := hSw.cell (HU1.out.cell HB.out.1)
      have h1 := hSw.cell (HU1.out.cell HB.out.2.1)
      have h2 := hSw.cell (HU1.out.cell HB.out.2.2.1)
      have h3 := hSw.cell (HU1.out.cell HB.out.2.2.2)
      clear hSw hS
      go_simp
    simp only [Act.put, List.setIfInBounds_toArray, List.set_cons_zero, List.set_cons_succ]
    refine wpAnyH_take (i := 1) (oi := { dst := some 38, op := Go.Op.move (Go.Operand.tmp 11), type := 3, pos := "fresh.go:18", after := #[], guard := none }) (v := .int .i64 (l : Int)) rfl (by kernel_rfl) (by kernel_rfl) (by kernel_rfl) (fun _ _ _ h => h) (Or.inl ⟨by kernel_rfl, ?_⟩) hS ?_
    · intro w5 hSw
      clear hSw hS
      go_simp
    simp only [Act.put, List.setIfInBounds_toArray, List.set_cons_zero, List.set_cons_succ]
    refine wpAnyH_take (i := 3) (oi := { dst := some 40, op := Go.Op.load 80 (Go.Operand.tmp 8), type := 80, pos := "fresh.go:18", after := #[], guard := none }) (v := .agg #[.int .i64 (h : Int), .int .i64 (o : Int)]) rfl (by kernel_rfl) (by kernel_rfl) (by kernel_rfl) (fun _ _ _ h => h) (Or.inl ⟨by kernel_rfl, ?_⟩) hS ?_
    · intro w5 hSw
      have h0 := hSw.cell (HU1.out.cell HB.out.1)
      have h1 := hSw.cell (HU1.out.cell HB.out.2.1)
      have h2 := hSw.cell (HU1.out.cell HB.out.2.2.1)
      have h3 := hSw.cell (HU1.out.cell HB.out.2.2.2)
      clear hSw hS
      go_simp
    simp only [Act.put, List.setIfInBounds_toArray, List.set_cons_zero, List.set_cons_succ]
    refine wpAnyH_take (i := 4) (oi := { dst := some 41, op := Go.Op.move (Go.Operand.tmp 11), type := 3, pos := "fresh.go:18", after := #[], guard := none }) (v := .int .i64 (l : Int)) rfl (by kernel_rfl) (by kernel_rfl) (by kernel_rfl) (fun _ _ _ h => h) (Or.inl ⟨by kernel_rfl, ?_⟩) hS ?_
    · intro w5 hSw
      clear hSw hS
      go_simp
    simp only [Act.put, List.setIfInBounds_toArray, List.set_cons_zero, List.set_cons_succ]
    refine wpAnyH_ready (rs := [2]) (by kernel_rfl) (by simp) ?_
    refine AllReadyH.cons (o := { dst := some 39, op := Go.Op.call { callee := Go.Callee.value (Go.Operand.func 39), args := #[Go.Operand.tmp 37, Go.Operand.tmp 38], argTypes := #[80, 3] }, type := 2, pos := "fresh.go:18", after := #[{ on := 0, ground := Go.Ground.data }, { on := 1, ground := Go.Ground.data }], guard := none }) rfl (fun K hK => ?_) AllReadyH.nil
    rw [if_pos (by kernel_rfl)]
    go_simp
    refine ((HN l _).out).mono ?_
    rintro e w2 ⟨rfl, u⟩
    dsimp only
    have hS2 := hS.trans u
    clear hS u
    refine hK.out _ _ hS2 (fun hS => ?_)
    clear hK hS2 K
    refine wpAnyH_ready (rs := [5]) (by kernel_rfl) (by simp) ?_
    refine AllReadyH.cons (o := { dst := some 42, op := Go.Op.call { callee := Go.Callee.value (Go.Operand.func 39), args := #[Go.Operand.tmp 40, Go.Operand.tmp 41], argTypes := #[80, 3] }, type := 2, pos := "fresh.go:18", after := #[{ on := 3, ground := Go.Ground.data }, { on := 4, ground := Go.Ground.data }, { on := 2, ground := Go.Ground.chain }], guard := none }) rfl (fun K hK => ?_) AllReadyH.nil
    rw [if_pos (by kernel_rfl)]
    go_simp
    refine ((HO l _).out).mono ?_
    rintro e w3 ⟨rfl, u⟩
    dsimp only
    have hS2 := hS.trans u
    clear hS u
    refine hK.out _ _ hS2 (fun hS => ?_)
    clear hK hS2 K
    have HU4 := Hid.of (HU1.out.trans hS)
    clear HU1
    by_cases hlt : nd h l o < nd h l s
    · have hltz : (nd h l o : Int) < (nd h l s : Int) := by omega
      refine wpAnyH_take (i := 6) (oi := { dst := some 43, op := Go.Op.binOp Go.BinOp.gtr 2 (Go.Operand.tmp 39) (Go.Operand.tmp 42) 2, type := 4, pos := "fresh.go:18", after := #[{ on := 2, ground := Go.Ground.data }, { on := 5, ground := Go.Ground.data }], guard := none }) (v := .bool true) rfl (by kernel_rfl) (by kernel_rfl) (by kernel_rfl) (fun _ _ _ h => h) (Or.inl ⟨by kernel_rfl, ?_⟩) hS ?_
      · intro w5 hSw
        clear hSw hS HU4
        go_simp
      simp only [Act.put, List.setIfInBounds_toArray, List.set_cons_zero, List.set_cons_succ]
      clear hS
      refine wpAnyH_done (by kernel_rfl) ?_ _
      have hl48 := lt_49 HP.out.2 hs hlt
      clear hltz
      have c0 := HU4.out.cell HB.out.1
      have c1 := HU4.out.cell HB.out.2.1
      have c2 := HU4.out.cell HB.out.2.2.1
      have c3 := HU4.out.cell HB.out.2.2.2
      go_wp2_with fail
      refine (HW l _ hlt).out.mono ?_
      rintro e w5 ⟨rfl, u5⟩
      have HU5 := Hid.of (HU4.out.trans u5)
      obtain ⟨r1, r2⟩ := row_len hlt
      have r3 := congrArg List.length (pre_succ h o s l)
      rw [List.length_append, r1] at r3
      have r4 : (nd h l s - 1) / 2 ^ h ≤ 281474976710656 := Nat.le_trans (Nat.div_le_self _ _) (by have := nd_le h l s; omega)
      rw [← HP.out.1] at r2 r3 r4
      generalize nd h l o / p = q1 at *
      generalize (nd h l s - 1) / p = q2 at *
      have r5 : (pre h o s l).length ≤ 13792273858822144 := Nat.le_trans HPL.out (Nat.mul_le_mul_right 281474976710656 hl)
      have HR := Hid.of r3
      generalize (pre h o s l).length = n0 at *
      have HN0 := Hid.of (show ((pre h o s (l + 1)).length : Int) = (n0 : Int) + ((q2 : Int) + 1 - (q1 : Int)) by have := HR.out; omega)
      clear r1 r3 u5 c0 c1 c2 c3 HU4 HPL HR
      dsimp only
      go_wp2
      go_roundg (49 - (l + 1))
      case measure => omega
      case rel => exact ⟨l + 1, by omega, by omega, by go_num, by rw [HN0.out], HU5.out⟩
    · have hltz : ¬ (nd h l o : Int) < (nd h l s : Int) := by omega
      refine wpAnyH_take (i := 6) (oi := { dst := some 43, op := Go.Op.binOp Go.BinOp.gtr 2 (Go.Operand.tmp 39) (Go.Operand.tmp 42) 2, type := 4, pos := "fresh.go:18", after := #[{ on := 2, ground := Go.Ground.data }, { on := 5, ground := Go.Ground.data }], guard := none }) (v := .bool false) rfl (by kernel_rfl) (by kernel_rfl) (by kernel_rfl) (fun _ _ _ h => h) (Or.inl ⟨by kernel_rfl, ?_⟩) hS ?_
      · intro w5 hSw
        clear hSw hS HU4
        go_simp
      simp only [Act.put, List.setIfInBounds_toArray, List.set_cons_zero, List.set_cons_succ]
      clear hS
      refine wpAnyH_done (by kernel_rfl) ?_ _
      have HE := Hid.of (FL_stop hos hlt hl)
      have hm : (pre h o s l).length = (FL h o s).length := by rw [HE.out]
      rw [hm]
      obtain ⟨n0, hn0⟩ : ∃ n0, n0 = (FL h o s).length := ⟨_, rfl⟩
      rw [← hn0]
      have HN0 := Hid.of hn0
      clear hm hn0 HPL HE hltz
      by_cases hbig : 65536 < n0
      · have hbz : (65536 : Int) < (n0 : Int) := by omega
        go_wp2
        go_ret2
        refine ⟨HU0.out.trans HU4.out, ?_⟩
        rw [← HN0.out, if_pos hbig]
        rfl
      · have hbz : ¬ (65536 : Int) < (n0 : Int) := by omega
        go_wp2_with (with_reducible show wpList _ _ _ ({ dst := _, op := Op.makeSlice 32 _ _, type := _, pos := _, after := _, guard := _ } :: _) _ _; refine Shut.out ?_)
        show wpList _ _ _ _ _ _
        refine wpList_mkTl rfl _ _ rfl h _ _ _ n0 rfl rfl rfl (by omega) ?_
        intro v6 w6 h6 u6
        have H6 := Hid.of (And.intro (h6.base (B' := W0.heap.size) HU4.out.size) (HU4.out.trans u6))
        clear h6 u6 HU4
        simp only [Act.put, List.setIfInBounds_toArray, List.set_cons_zero, List.set_cons_succ]
        go_wp2_with fail
        go_loopg [14, 15, 16, 17, 18] 49 (fun k s14 s15 _ _ _ wr => ∃ l : Nat, l ≤ 49 ∧ 49 - l ≤ k ∧ s15 = .int .i64 (l : Int) ∧ Hid (OwnTl wr W0.heap.size s14 h (pre h o s l)) ∧ Hid (Up W0 wr))
        case atStart => exact ⟨0, by omega, by omega, rfl, H6.out.1, H6.out.2⟩
        case round =>
          clear hlt hl hk H6
          obtain ⟨l, hl, hk, rfl, HT, HU1⟩ := hrel
          obtain ⟨wb, hwb⟩ : ∃ wb, wb = wr := ⟨_, rfl⟩
          subst hwb
          go_wp2_with fail
          refine wp_region_held_drew (S := fun w2 => Up wb w2) (by kernel_rfl) (Up.refl _).drew (fun hS => ?_)
          refine wpAnyH_take (i := 0) (oi := { dst := some 62, op := Go.Op.load 80 (Go.Operand.tmp 9), type := 80, pos := "fresh.go:26", after := #[], guard := none }) (v := .agg #[.int .i64 (h : Int), .int .i64 (s : Int)]) rfl (by kernel_rfl) (by kernel_rfl) (by kernel_rfl) (fun _ _ _ h => h) (Or.inl ⟨by kernel_rfl, ?_⟩) hS ?_
          · intro w5 hSw
            have h0 := hSw.cell (HU1.out.cell HB.out.1)
            have h1 := hSw.cell (HU1.out.cell HB.out.2.1)
            have h2 := hSw.cell (HU1.out.cell HB.out.2.2.1)
            have h3 := hSw.cell (HU1.out.cell HB.out.2.2.2)
            clear hSw hS
            go_simp
          simp only [Act.put, List.setIfInBounds_toArray, List.set_cons_zero, List.set_cons_succ]
          refine wpAnyH_take (i := 1) (oi := { dst := some 63, op := Go.Op.move (Go.Operand.tmp 15), type := 3, pos := "fresh.go:26", after := #[], guard := none }) (v := .int .i64 (l : Int)) rfl (by kernel_rfl) (by kernel_rfl) (by kernel_rfl) (fun _ _ _ h => h) (Or.inl ⟨by kernel_rfl, ?_⟩) hS ?_
          · intro w5 hSw
            clear hSw hS
            go_simp
          simp only [Act.put, List.setIfInBounds_toArray, List.set_cons_zero, List.set_cons_succ]
          refine wpAnyH_take (i := 3) (oi := { dst := some 65, op := Go.Op.load 80 (Go.Operand.tmp 8), type := 80, pos := "fresh.go:26", after := #[], guard := none }) (v := .agg #[.int .i64 (h : Int), .int .i64 (o : Int)]) rfl (by kernel_rfl) (by kernel_rfl) (by kernel_rfl) (fun _ _ _ h => h) (Or.inl ⟨by kernel_rfl, ?_⟩) hS ?_
          · intro w5 hSw
            have h0 := hSw.cell (HU1.out.cell HB.out.1)
            have h1 := hSw.cell (HU1.out.cell HB.out.2.1)
            have h2 := hSw.cell (HU1.out.cell HB.out.2.2.1)
            have h3 := hSw.cell (HU1.out.cell HB.out.2.2.2)
            clear hSw hS
            go_simp
          simp only [Act.put, List.setIfInBounds_toArray, List.set_cons_zero, List.set_cons_succ]
          refine wpAnyH_take (i := 4) (oi := { dst := some 66, op := Go.Op.move (Go.Operand.tmp 15), type := 3, pos := "fresh.go:26", after := #[], guard := none }) (v := .int .i64 (l : Int)) rfl (by kernel_rfl) (by kernel_rfl) (by kernel_rfl) (fun _ _ _ h => h) (Or.inl ⟨by kernel_rfl, ?_⟩) hS ?_
          · intro w5 hSw
            clear hSw hS
            go_simp
          simp only [Act.put, List.setIfInBounds_toArray, List.set_cons_zero, List.set_cons_succ]
          refine wpAnyH_ready (rs := [2]) (by kernel_rfl) (by simp) ?_
          refine AllReadyH.cons (o := { dst := some 64, op := Go.Op.call { callee := Go.Callee.value (Go.Operand.func 39), args := #[Go.Operand.tmp 62, Go.Operand.tmp 63], argTypes := #[80, 3] }, type := 2, pos := "fresh.go:26", after := #[{ on := 0, ground := Go.Ground.data }, { on := 1, ground := Go.Ground.data }], guard := none }) rfl (fun K hK => ?_) AllReadyH.nil
          rw [if_pos (by kernel_rfl)]
          go_simp
          refine ((HN l _).out).mono ?_
          rintro e w2 ⟨rfl, u⟩
          dsimp only
          have hS2 := hS.trans u
          clear hS u
          refine hK.out _ _ hS2 (fun hS => ?_)
          clear hK hS2 K
          refine wpAnyH_ready (rs := [5]) (by kernel_rfl) (by simp) ?_
          refine AllReadyH.cons (o := { dst := some 67, op := Go.Op.call { callee := Go.Callee.value (Go.Operand.func 39), args := #[Go.Operand.tmp 65, Go.Operand.tmp 66], argTypes := #[80, 3] }, type := 2, pos := "fresh.go:26", after := #[{ on := 3, ground := Go.Ground.data }, { on := 4, ground := Go.Ground.data }, { on := 2, ground := Go.Ground.chain }], guard := none }) rfl (fun K hK => ?_) AllReadyH.nil
          rw [if_pos (by kernel_rfl)]
          go_simp
          refine ((HO l _).out).mono ?_
          rintro e w3 ⟨rfl, u⟩
          dsimp only
          have hS2 := hS.trans u
          clear hS u
          refine hK.out _ _ hS2 (fun hS => ?_)
          clear hK hS2 K
          have HU4 := Hid.of (HU1.out.trans hS)
          have HT4 := Hid.of (HT.out.up hS)
          clear HT
          clear HU1
          by_cases hlt : nd h l o < nd h l s
          · have hltz : (nd h l o : Int) < (nd h l s : Int) := by omega
            refine wpAnyH_take (i := 6) (oi := { dst := some 68, op := Go.Op.binOp Go.BinOp.gtr 2 (Go.Operand.tmp 64) (Go.Operand.tmp 67) 2, type := 4, pos := "fresh.go:26", after := #[{ on := 2, ground := Go.Ground.data }, { on := 5, ground := Go.Ground.data }], guard := none }) (v := .bool true) rfl (by kernel_rfl) (by kernel_rfl) (by kernel_rfl) (fun _ _ _ h => h) (Or.inl ⟨by kernel_rfl, ?_⟩) hS ?_
            · intro w5 hSw
              clear hSw hS HU4
              go_simp
            simp only [Act.put, List.setIfInBounds_toArray, List.set_cons_zero, List.set_cons_succ]
            clear hS
            refine wpAnyH_done (by kernel_rfl) ?_ _
            have hl48 := lt_49 HP.out.2 hs hlt
            clear hltz
            have c0 := HU4.out.cell HB.out.1
            have c1 := HU4.out.cell HB.out.2.1
            have c2 := HU4.out.cell HB.out.2.2.1
            have c3 := HU4.out.cell HB.out.2.2.2
            go_wp2_with fail
            refine (HW l _ hlt).out.mono ?_
            rintro e w5 ⟨rfl, u5⟩
            have HU5 := Hid.of (HU4.out.trans u5)
            have HT5 := Hid.of (HT4.out.up u5)
            obtain ⟨r1, r2⟩ := row_len hlt
            have HRS := Hid.of (fun j => row_step (h := h) (l := l) (o := o) (s := s) (j := j) hlt)
            have HRL : Hid ((pre h o s l).length + (row h l o s).length ≤ n0) := by
              have h1 := pre_mono h o s (l + 1) (49 - (l + 1))
              rw [pre_succ, List.length_append, show l + 1 + (49 - (l + 1)) = 49 by omega] at h1
              rw [HN0.out]
              exact h1
            have r4 : (nd h l s - 1) / 2 ^ h ≤ 281474976710656 := Nat.le_trans (Nat.div_le_self _ _) (by have := nd_le h l s; omega)
            rw [← HP.out.1] at r1 r2 r4 HRS
            generalize nd h l o / p = q1 at *
            generalize (nd h l s - 1) / p = q2 at *
            have HR1 := Hid.of r1
            clear r1 u5 c0 c1 c2 c3 HU4 HT4
            dsimp only
            go_wp2_with fail
            go_loopg [14, 18] (q2 + 1 - q1) (fun k s14 s18 wr => ∃ j : Nat, j ≤ q2 + 1 - q1 ∧ q2 + 1 - q1 - j ≤ k ∧ s18 = .int .i64 ((q1 : Int) + (j : Int)) ∧ Hid (OwnTl wr W0.heap.size s14 h (pre h o s l ++ (row h l o s).take j)) ∧ Hid (Up W0 wr))
            case atStart => exact ⟨0, by omega, by omega, by simp, by rw [List.take_zero, List.append_nil]; exact HT5.out, HU5.out⟩
            case round =>
              clear HT5 HU5
              obtain ⟨j, hj, hkj, rfl, HT6, HU6⟩ := hrel
              obtain ⟨wc, hwc⟩ : ∃ wc, wc = wr := ⟨_, rfl⟩
              subst hwc
              by_cases hj2 : j < q2 + 1 - q1
              · have hjz : (q1 : Int) + (j : Int) < (q2 : Int) + 1 := by omega
                have c2 := HU6.out.cell HB.out.2.2.1
                have c3 := HU6.out.cell HB.out.2.2.2
                have HS1 := Hid.of (HRS.out j hj2)
                obtain ⟨n, hn⟩ : ∃ n, n = q1 + j := ⟨_, rfl⟩
                have hnz : (q1 : Int) + (j : Int) = (n : Int) := by omega
                rw [← hn] at HS1
                have HWh := fun w => Hid.of (HH l n w).out
                obtain ⟨z, hz⟩ : ∃ z, z = wd h (nd h l s) n := ⟨_, rfl⟩
                rw [← hz] at HS1
                simp only [← hz] at HWh
                clear hz
                rw [hnz] at hjz ⊢
                have hlen : (pre h o s l ++ (row h l o s).take j).length + 1 ≤ 1099511627776 := by
                  have h1 := HRL.out
                  have h2 := HR1.out
                  rw [List.length_append, List.length_take]
                  omega
                have hsz := HU6.out.size
                have hn63 : (n : Int) + 1 ≤ 281474976710658 := by omega
                have hnj : (n : Int) + 1 = (q1 : Int) + ((j + 1 : Nat) : Int) := by omega
                have HNJ := Hid.of hnj
                clear hn hnz hnj
                go_wp2_with fail
                refine (HWh _).out.mono ?_
                rintro e w7 ⟨rfl, u7⟩
                have HU7 := Hid.of (HU6.out.trans u7)
                have HT7 := Hid.of (HT6.out.up u7)
                have hsz7 := HU7.out.size
                clear u7 HT6 HU6 c2 c3
                dsimp only [tv, tc]
                go_wp2_with (with_reducible show wpList _ _ _ ({ dst := _, op := Op.call { callee := Callee.builtin Builtin.append, args := _, argTypes := _ }, type := _, pos := _, after := _, guard := _ } :: _) _ _; refine Shut.out ?_)
                show wpList _ _ _ _ _ _
                refine wpList_appTl rfl _ _ rfl W0.heap.size _ h _ (l, n, z) rfl (by exact HT7.out) 1 rfl hlen hsz7 ?_
                intro v8 w8 h8' k8
                have H8 := Hid.of (And.intro h8' (Below.trans HU7.out k8))
                clear h8' k8
                simp only [Act.put, List.setIfInBounds_toArray, List.set_cons_zero, List.set_cons_succ]
                go_wp2
                go_roundg (q2 + 1 - q1 - (j + 1))
                case measure => omega
                case rel =>
                  refine ⟨j + 1, by omega, by omega, ?_, ?_, H8.out.2⟩
                  · rw [HNJ.out]
                  · rw [HS1.out, ← List.append_assoc]
                    exact H8.out.1
              · have hjz : ¬ (q1 : Int) + (j : Int) < (q2 : Int) + 1 := by omega
                have HT9 : Hid (OwnTl wc W0.heap.size u14 h (pre h o s (l + 1))) := by
                  have h1 := HT6.out
                  rw [List.take_of_length_le (by have := HR1.out; omega)] at h1
                  rw [pre_succ]
                  exact h1
                go_wp2
                go_roundg (49 - (l + 1))
                case measure => omega
                case rel => exact ⟨l + 1, by omega, by omega, by go_num, HT9.out, HU6.out⟩
          · have hltz : ¬ (nd h l o : Int) < (nd h l s : Int) := by omega
            refine wpAnyH_take (i := 6) (oi := { dst := some 68, op := Go.Op.binOp Go.BinOp.gtr 2 (Go.Operand.tmp 64) (Go.Operand.tmp 67) 2, type := 4, pos := "fresh.go:26", after := #[{ on := 2, ground := Go.Ground.data }, { on := 5, ground := Go.Ground.data }], guard := none }) (v := .bool false) rfl (by kernel_rfl) (by kernel_rfl) (by kernel_rfl) (fun _ _ _ h => h) (Or.inl ⟨by kernel_rfl, ?_⟩) hS ?_
            · intro w5 hSw
              clear hSw hS HU4
              go_simp
            simp only [Act.put, List.setIfInBounds_toArray, List.set_cons_zero, List.set_cons_succ]
            clear hS
            refine wpAnyH_done (by kernel_rfl) ?_ _
            have HE := Hid.of (FL_stop hos hlt hl)
            clear hltz
            go_wp2
            go_ret2
            refine ⟨HU0.out.trans HU4.out, ?_⟩
            rw [← HN0.out, if_neg hbig]
            refine ⟨_, rfl, ?_⟩
            rw [HE.out]
            exact HT4.out.base HU0.out.size
end Go.Proofs.Ytngoedhddjakhaa
