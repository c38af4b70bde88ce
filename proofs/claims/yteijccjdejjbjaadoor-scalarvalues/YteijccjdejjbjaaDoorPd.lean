import Derived.Test.YteijccjdejjbjaaDoorSm
namespace Go.Proofs.YteijccjdejjbjaaDoor
open Go.RowKit Go.Shelf ScalarNum

theorem OX.drewN {w0 : World} {v : Value} {k D : Nat} {wr : World} (h : OX w0 v k D wr) (n : Nat) : OX w0 v k D (wr.drewN n) := ⟨h.own, h.sl, h.lt, h.gw⟩
theorem mulb (a b : Nat) (ha : a < 256) (hb : b < 256) : a * b ≤ 65025 := Nat.mul_le_mul (Nat.le_of_lt_succ (n := 255) ha) (Nat.le_of_lt_succ (n := 255) hb)
theorem carry_le (s : Nat) (h : s ≤ 1000000 + 32 * 65025) : s / 256 ≤ 1000000 := by omega
theorem prod_end {D c P : Nat} (h : D + c * 256 ^ 64 = P) (hD : D < 256 ^ 64) (hP : P < M * M) : D = P := by
  have e : (256 : Nat) ^ 64 = M * M := by decide
  rw [e] at h hD
  rcases c with _ | c
  · omega
  · exfalso
    have : M * M ≤ (c + 1) * (M * M) := Nat.le_mul_of_pos_left _ (by omega)
    omega

set_option maxRecDepth 100000 in
set_option maxHeartbeats 2000000 in
theorem product_num (ga ca x gb cb y : Nat) (hx : x < M) (hy : y < M) (w : World) (ha : w.rangeAt ga 0 (yl 32 x)) (hb : w.rangeAt gb 0 (yl 32 y)) :
    Calls Tryd.prog 51 #[.slice (some ⟨ga, 0, none⟩) 32 ca, .slice (some ⟨gb, 0, none⟩) 32 cb] w fun e w' => (∃ v, e = .returned v ∧ SL 64 (x * y) v w') ∧ Grown w w' := by
  obtain ⟨ii, hi1, hi2, hi3, hi4⟩ := hI8
  have HA := Hid.of ha
  have HB := Hid.of hb
  have HXY := Hid.of (And.intro hx hy)
  have HY0 := Hid.of (fun j (h : 32 ≤ j) => dg_beyond (n := 32) (y := y) (j := j) (by rw [show (256 : Nat) ^ 32 = M from by decide]; exact hy) h)
  clear ha hb hx hy
  go_enter Tryd.func51, Tryd.ntmps51
  go_wp2
  go_loopw [5, 6, 7] (fun v5 v6 v7 wr => ∃ k D c : Nat, v7 = .int .i64 (k : Int) ∧ v6 = .int .i64 (c : Int) ∧ k ≤ 64 ∧ c ≤ 1000000 ∧ D + c * 256 ^ k = us x y 32 k ∧ OX w v5 k D wr) (fun _ _ v7 _ => 64 - (intOf v7).toNat)
  case atStart => exact ⟨0, 0, 0, rfl, rfl, by decide, by decide, rfl, World.ownsRow_nil _ _ _ _, .inl rfl, by decide, Grown.refl _⟩
  case round =>
    obtain ⟨k, D, c, rfl, rfl, hk, hc, he, hO⟩ := hrel
    have HO := Hid.of hO
    have HE := Hid.of he
    clear hO he
    by_cases hlt : k < 64
    · have b1 : (k : Int) < 64 := Int.ofNat_lt.2 hlt
      go_wp2
      go_loopw [8, 9] (fun v8 v9 wr => ∃ i s : Nat, v9 = .int .i64 (i : Int) ∧ v8 = .int .i64 (s : Int) ∧ i ≤ 32 ∧ i ≤ k + 1 ∧ s = c + cs x y i k ∧ OX w u5 k D wr) (fun _ v9 _ => 32 - (intOf v9).toNat)
      case atStart => exact ⟨0, c, rfl, rfl, by decide, Nat.zero_le _, rfl, HO.out⟩
      case round =>
        obtain ⟨i, s, rfl, rfl, hi, hik, hs, hO2⟩ := hrel
        have HO2 := Hid.of hO2
        clear HO hO2
        have hcs := cs_le x y k i
        have hs3 : s ≤ 1000000 + 32 * 65025 := by
          rw [hs]; exact Nat.add_le_add hc (Nat.le_trans hcs (Nat.mul_le_mul_right _ hi))
        by_cases h1 : i < 32
        · have b2 : (i : Int) < 32 := Int.ofNat_lt.2 h1
          by_cases h2 : i ≤ k
          · have b3 : (i : Int) ≤ (k : Int) := Int.ofNat_le.2 h2
            have hnx := cs_next (x := x) (y := y) h2
            have d1 : wr.cell? ⟨ga, i, none⟩ = some (.int .u8 (dg 256 x i : Nat)) := by
              have := rangeAt_grown HA.out HO2.out.gw i _ (yl_get 32 x i h1); rwa [Nat.zero_add] at this
            have ekn : (k : Int) - (i : Int) = ((k - i : Nat) : Int) := by omega
            have hki : k - i < 64 := by omega
            by_cases h3 : k - i < 32
            · have d2 : wr.cell? ⟨gb, k - i, none⟩ = some (.int .u8 (dg 256 y (k - i) : Nat)) := by
                have := rangeAt_grown HB.out HO2.out.gw (k - i) _ (yl_get 32 y (k - i) h3); rwa [Nat.zero_add] at this
              have hxi : dg 256 x i < 256 := dg_lt (by decide)
              have hyi : dg 256 y (k - i) < 256 := dg_lt (by decide)
              have e1 := w64s _ hxi
              have e2 := w64s _ hyi
              have hm := mulb _ _ hxi hyi
              have HN := Hid.of (show s + dg 256 x i * dg 256 y (k - i) = c + cs x y (i + 1) k by rw [hnx, hs, Nat.add_assoc])
              clear hnx hs hcs
              generalize dg 256 x i = xi at *
              generalize dg 256 y (k - i) = yi at *
              have b4 : ((k - i : Nat) : Int) < 32 := Int.ofNat_lt.2 h3
              have em : (xi : Int) * (yi : Int) = ((xi * yi : Nat) : Int) := by simp
              generalize xi * yi = pr at *
              generalize k - i = kj at *
              go_wp2
              go_quiet (fail)
              go_wp2
              go_roundw
              case rel => exact ⟨i + 1, s + pr, by go_num, by simp, h1, Nat.succ_le_succ h2, HN.out, HO2.out.drewN _⟩
              case measure => simp [intOf]; omega
            · have b4 : ¬ ((k - i : Nat) : Int) < 32 := fun h => h3 (Int.ofNat_lt.1 h)
              have HN := Hid.of (show s = c + cs x y (i + 1) k by rw [hnx, hs, HY0.out (k - i) (Nat.le_of_not_lt h3), Nat.mul_zero, Nat.add_zero])
              clear hnx hs hcs d1
              generalize k - i = kj at *
              go_wp2
              go_roundw
              case rel => exact ⟨i + 1, s, by go_num, rfl, h1, Nat.succ_le_succ h2, HN.out, HO2.out⟩
              case measure => simp [intOf]; omega
          · have b3 : ¬ (i : Int) ≤ (k : Int) := fun h => h2 (Int.ofNat_le.1 h)
            have hs9 : s = c + cs x y 32 k := by
              have hik2 : i = k + 1 := by omega
              rw [hs, hik2, cs_stop x y k 32 (by omega)]
            have q1 := tmods s
            have q2 := tdivs s
            have q3 := u8_of s
            have hc2 := carry_le s hs3
            have HL := Hid.of (show D + s * 256 ^ k = us x y 32 (k + 1) by rw [hs9, Nat.add_mul]; simp only [us]; rw [← HE.out]; omega)
            clear hs hs9 hcs
            go_wp2_with (with_reducible show wpList _ _ _ ({ dst := _, op := Op.call { callee := Callee.builtin Builtin.append, args := _, argTypes := _ }, type := _, pos := _, after := _, guard := _ } :: _) _ _; refine Shut.out ?_)
            show wpList _ _ _ _ _ _
            rw [show ((s : Int) % 256) = ((s % 256 : Nat) : Int) from by simp]
            refine wpList_append_one (W0 := w) rfl _ _ rfl Tryd.underlying64 hi1 hi2 hi3 hi4 rfl _ k (yl k D) rfl (HO2.out.own.alloc _) ⟨wr.heap.size, 0, none⟩ 1 (.int .u8 ((s % 256 : Nat) : Int)) rfl (by simp [Addr.add]) rfl (Nat.lt_trans hlt (by decide)) (Grown.alloc HO2.out.gw _ _) ?_
            intro v' w' ho' hgr hv' hg'
            rw [yl_lay HO2.out.lt (Nat.mod_lt _ (by decide))] at ho'
            obtain ⟨l1, l2⟩ := lay_step HO2.out.lt HL.out
            have HO' := Hid.of (show OX w v' (k + 1) (D + s % 256 * 256 ^ k) w' from ⟨ho', .inr hv', l1, hg'⟩)
            have HL' := Hid.of (And.intro l2 hc2)
            clear ho' hgr hv' hg' l1 l2 HO2 HL hc2 HE
            simp only [Act.put, List.setIfInBounds_toArray, List.set_cons_zero, List.set_cons_succ]
            go_wp2
            go_roundw
            case rel => exact ⟨k + 1, D + s % 256 * 256 ^ k, s / 256, by go_num, by simp, hlt, HL'.out.2, HL'.out.1, HO'.out⟩
            case measure => simp [intOf]; omega
        · have b2 : ¬ (i : Int) < 32 := fun h => h1 (Int.ofNat_lt.1 h)
          have hs9 : s = c + cs x y 32 k := by
            have hi32 : i = 32 := by omega
            rw [hs, hi32]
          have q1 := tmods s
          have q2 := tdivs s
          have q3 := u8_of s
          have hc2 := carry_le s hs3
          have HL := Hid.of (show D + s * 256 ^ k = us x y 32 (k + 1) by rw [hs9, Nat.add_mul]; simp only [us]; rw [← HE.out]; omega)
          clear hs hs9 hcs
          go_wp2_with (with_reducible show wpList _ _ _ ({ dst := _, op := Op.call { callee := Callee.builtin Builtin.append, args := _, argTypes := _ }, type := _, pos := _, after := _, guard := _ } :: _) _ _; refine Shut.out ?_)
          show wpList _ _ _ _ _ _
          rw [show ((s : Int) % 256) = ((s % 256 : Nat) : Int) from by simp]
          refine wpList_append_one (W0 := w) rfl _ _ rfl Tryd.underlying64 hi1 hi2 hi3 hi4 rfl _ k (yl k D) rfl (HO2.out.own.alloc _) ⟨wr.heap.size, 0, none⟩ 1 (.int .u8 ((s % 256 : Nat) : Int)) rfl (by simp [Addr.add]) rfl (Nat.lt_trans hlt (by decide)) (Grown.alloc HO2.out.gw _ _) ?_
          intro v' w' ho' hgr hv' hg'
          rw [yl_lay HO2.out.lt (Nat.mod_lt _ (by decide))] at ho'
          obtain ⟨l1, l2⟩ := lay_step HO2.out.lt HL.out
          have HO' := Hid.of (show OX w v' (k + 1) (D + s % 256 * 256 ^ k) w' from ⟨ho', .inr hv', l1, hg'⟩)
          have HL' := Hid.of (And.intro l2 hc2)
          clear ho' hgr hv' hg' l1 l2 HO2 HL hc2 HE
          simp only [Act.put, List.setIfInBounds_toArray, List.set_cons_zero, List.set_cons_succ]
          go_wp2
          go_roundw
          case rel => exact ⟨k + 1, D + s % 256 * 256 ^ k, s / 256, by go_num, by simp, hlt, HL'.out.2, HL'.out.1, HO'.out⟩
          case measure => simp [intOf]; omega
    · have hk4 : k = 64 := by omega
      subst hk4
      have HE2 := Hid.of (prod_end (HE.out.trans (us_mul HXY.out.1 HXY.out.2)) HO.out.lt (Nat.mul_lt_mul'' HXY.out.1 HXY.out.2))
      have hsl := HO.out.sl
      obtain ⟨g, cap, rfl⟩ := hsl.resolve_left (by decide)
      clear hsl HE hk hlt hc
      go_wp2
      go_ret
      have hr := owns_range HO.out.own
      rw [HE2.out] at hr
      exact ⟨⟨_, rfl, g, cap, rfl, hr⟩, HO.out.gw⟩
end Go.Proofs.YteijccjdejjbjaaDoor
