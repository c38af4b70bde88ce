import Derived.Test.YteijccjdejjbjaaDoorLi
import Derived.Test.YteijccjdejjbjaaDoorRc
namespace Go.Proofs.YteijccjdejjbjaaDoor
open Go.RowKit Go.Shelf ScalarNum

theorem yl_lay {k D d : Nat} (hD : D < 256 ^ k) (hd : d < 256) : yl k D ++ [.int .u8 ((d : Nat) : Int)] = yl (k + 1) (D + d * 256 ^ k) := by
  have e1 : yl k D = yl k (D + d * 256 ^ k) := by
    unfold yl ds
    congr 1
    apply List.map_congr_left
    intro j hj
    rw [dg_below (by simpa using hj)]
  rw [e1]
  have := yl_succ k (D + d * 256 ^ k)
  rwa [dg_top hD hd] at this
theorem u8_of (s : Nat) : IntKind.u8.wrap ((s % 256 : Nat) : Int) = ((s % 256 : Nat) : Int) := by rw [IntKind.wrap_u8]; omega

theorem sumb (c xi yi : Nat) (hc : c ≤ 1) (hx : xi < 256) (hy : yi < 256) : (c : Int) + (xi : Int) + (yi : Int) = ((c + xi + yi : Nat) : Int) ∧ c + xi + yi < 513 ∧ (c + xi + yi) / 256 ≤ 1 := by omega

structure OX (w0 : World) (v : Value) (k D : Nat) (wr : World) : Prop where
  own : wr.ownsRow w0.heap.size 5 1 v k (yl k D)
  sl : k = 0 ∨ ∃ g cap, v = .slice (some ⟨g, 0, none⟩) k cap
  lt : D < 256 ^ k
  gw : Grown w0 wr

set_option maxRecDepth 100000 in
set_option maxHeartbeats 2000000 in
theorem added_num (ga na ca x gb nb cb y : Nat) (hna : na < 1048576) (hle : nb ≤ na) (hx : x < 256 ^ na) (hy : y < 256 ^ nb) (w : World) (ha : w.rangeAt ga 0 (yl na x)) (hb : w.rangeAt gb 0 (yl nb y)) :
    Calls Tryd.prog 53 #[.slice (some ⟨ga, 0, none⟩) na ca, .slice (some ⟨gb, 0, none⟩) nb cb] w fun e w' => (∃ v, e = .returned v ∧ SL (na + 1) (x + y) v w') ∧ Grown w w' := by
  obtain ⟨ii, hi1, hi2, hi3, hi4⟩ := hI8
  have HA := Hid.of ha
  have HB := Hid.of hb
  have HX := Hid.of hx
  have HY := Hid.of hy
  clear ha hb hx hy
  go_enter Tryd.func53, Tryd.ntmps53
  go_wp2
  go_loopw [5, 6, 7] (fun v5 v6 v7 wr => ∃ i D c : Nat, v7 = .int .i64 (i : Int) ∧ v6 = .int .i64 (c : Int) ∧ i ≤ na ∧ c ≤ 1 ∧ D + c * 256 ^ i = x % 256 ^ i + y % 256 ^ i ∧ OX w v5 i D wr) (fun _ _ v7 _ => na - (intOf v7).toNat)
  case atStart => exact ⟨0, 0, 0, rfl, rfl, Nat.zero_le _, by decide, by simp [Nat.mod_one], World.ownsRow_nil _ _ _ _, .inl rfl, by decide, Grown.refl _⟩
  case round =>
    obtain ⟨i, D, c, rfl, rfl, hi, hc, he, hO⟩ := hrel
    have HO := Hid.of hO
    clear hO
    by_cases hlt : i < na
    · have b1 : (i : Int) < (na : Int) := Int.ofNat_lt.2 hlt
      have d1 : wr.cell? ⟨ga, i, none⟩ = some (.int .u8 (dg 256 x i : Nat)) := by
        have := rangeAt_grown HA.out HO.out.gw i _ (yl_get na x i hlt); rwa [Nat.zero_add] at this
      have hxi : dg 256 x i < 256 := dg_lt (by decide)
      have hyi : dg 256 y i < 256 := dg_lt (by decide)
      have hst := add_step256 he
      have e1 := w64s _ hxi
      by_cases hlb : i < nb
      · have b2 : (i : Int) < (nb : Int) := Int.ofNat_lt.2 hlb
        have d2 : wr.cell? ⟨gb, i, none⟩ = some (.int .u8 (dg 256 y i : Nat)) := by
          have := rangeAt_grown HB.out HO.out.gw i _ (yl_get nb y i hlb); rwa [Nat.zero_add] at this
        have e2 := w64s _ hyi
        generalize dg 256 x i = xi at *
        generalize dg 256 y i = yi at *
        obtain ⟨es, hs2, hs3⟩ := sumb c xi yi hc hxi hyi
        generalize c + xi + yi = s at *
        have q1 := tmods s
        have q2 := tdivs s
        have q3 := u8_of s
        have HL := Hid.of (And.intro hst hs3)
        clear hst he hxi hyi hs3
        go_wp2_with (with_reducible show wpList _ _ _ ({ dst := _, op := Op.call { callee := Callee.builtin Builtin.append, args := _, argTypes := _ }, type := _, pos := _, after := _, guard := _ } :: _) _ _; refine Shut.out ?_)
        show wpList _ _ _ _ _ _
        rw [show ((s : Int) % 256) = ((s % 256 : Nat) : Int) from by simp]
        refine wpList_append_one (W0 := w) rfl _ _ rfl Tryd.underlying64 hi1 hi2 hi3 hi4 rfl _ i (yl i D) rfl (HO.out.own.alloc _) ⟨wr.heap.size, 0, none⟩ 1 (.int .u8 ((s % 256 : Nat) : Int)) rfl (by simp [Addr.add]) rfl (Nat.lt_trans hlt (Nat.lt_trans hna (by decide))) (Grown.alloc HO.out.gw _ _) ?_
        intro v' w' ho' hgr hv' hg'
        rw [yl_lay HO.out.lt (Nat.mod_lt _ (by decide))] at ho'
        obtain ⟨l1, l2⟩ := lay_step HO.out.lt HL.out.1
        have HO' := Hid.of (show OX w v' (i + 1) (D + s % 256 * 256 ^ i) w' from ⟨ho', .inr hv', l1, hg'⟩)
        have HL' := Hid.of (And.intro l2 HL.out.2)
        clear ho' hgr hv' hg' l1 l2 HO HL d1 d2
        simp only [Act.put, List.setIfInBounds_toArray, List.set_cons_zero, List.set_cons_succ]
        go_wp2
        go_roundw
        case rel => exact ⟨i + 1, D + s % 256 * 256 ^ i, s / 256, by go_num, by simp, hlt, HL'.out.2, HL'.out.1, HO'.out⟩
        case measure => simp [intOf]; omega
      · have b2 : ¬ (i : Int) < (nb : Int) := fun h => hlb (Int.ofNat_lt.1 h)
        have hy0 : dg 256 y i = 0 := dg_beyond HY.out (Nat.le_of_not_lt hlb)
        rw [hy0] at hst hyi
        generalize dg 256 x i = xi at *
        obtain ⟨es, hs2, hs3⟩ := sumb c xi 0 hc hxi hyi
        rw [Nat.add_zero] at hst hs2 hs3
        rw [show ((0 : Nat) : Int) = 0 from rfl, Int.add_zero, Nat.add_zero] at es
        generalize c + xi = s at *
        have q1 := tmods s
        have q2 := tdivs s
        have q3 := u8_of s
        have HL := Hid.of (And.intro hst hs3)
        clear hst he hxi hyi hs3 hy0
        go_wp2_with (with_reducible show wpList _ _ _ ({ dst := _, op := Op.call { callee := Callee.builtin Builtin.append, args := _, argTypes := _ }, type := _, pos := _, after := _, guard := _ } :: _) _ _; refine Shut.out ?_)
        show wpList _ _ _ _ _ _
        rw [show ((s : Int) % 256) = ((s % 256 : Nat) : Int) from by simp]
        refine wpList_append_one (W0 := w) rfl _ _ rfl Tryd.underlying64 hi1 hi2 hi3 hi4 rfl _ i (yl i D) rfl (HO.out.own.alloc _) ⟨wr.heap.size, 0, none⟩ 1 (.int .u8 ((s % 256 : Nat) : Int)) rfl (by simp [Addr.add]) rfl (Nat.lt_trans hlt (Nat.lt_trans hna (by decide))) (Grown.alloc HO.out.gw _ _) ?_
        intro v' w' ho' hgr hv' hg'
        rw [yl_lay HO.out.lt (Nat.mod_lt _ (by decide))] at ho'
        obtain ⟨l1, l2⟩ := lay_step HO.out.lt HL.out.1
        have HO' := Hid.of (show OX w v' (i + 1) (D + s % 256 * 256 ^ i) w' from ⟨ho', .inr hv', l1, hg'⟩)
        have HL' := Hid.of (And.intro l2 HL.out.2)
        clear ho' hgr hv' hg' l1 l2 HO HL d1
        simp only [Act.put, List.setIfInBounds_toArray, List.set_cons_zero, List.set_cons_succ]
        go_wp2
        go_roundw
        case rel => exact ⟨i + 1, D + s % 256 * 256 ^ i, s / 256, by go_num, by simp, hlt, HL'.out.2, HL'.out.1, HO'.out⟩
        case measure => simp [intOf]; omega
    · have hin : i = na := by omega
      subst hin
      have b1 : ¬ (i : Int) < (nb : Int) := fun h => by have := Int.ofNat_lt.1 h; omega
      rw [Nat.mod_eq_of_lt HX.out, Nat.mod_eq_of_lt (Nat.lt_of_lt_of_le HY.out (Nat.pow_le_pow_right (by decide) hle))] at he
      have q3 : IntKind.u8.wrap (c : Int) = (c : Int) := by rw [IntKind.wrap_u8]; omega
      have HE := Hid.of he
      clear he
      go_wp2_with (with_reducible show wpList _ _ _ ({ dst := _, op := Op.call { callee := Callee.builtin Builtin.append, args := _, argTypes := _ }, type := _, pos := _, after := _, guard := _ } :: _) _ _; refine Shut.out ?_)
      show wpList _ _ _ _ _ _
      try rw [show ((c : Int) % 256) = (c : Int) from by omega]
      refine wpList_append_one (W0 := w) rfl _ _ rfl Tryd.underlying64 hi1 hi2 hi3 hi4 rfl _ i (yl i D) rfl (HO.out.own.alloc _) ⟨wr.heap.size, 0, none⟩ 1 (.int .u8 (c : Int)) rfl (by simp [Addr.add]) rfl (Nat.lt_trans hna (by decide)) (Grown.alloc HO.out.gw _ _) ?_
      intro v' w' ho' hgr hv' hg'
      rw [yl_lay HO.out.lt (show c < 256 by omega), HE.out] at ho'
      have HO' := Hid.of (And.intro ho' (And.intro hv' hg'))
      clear ho' hgr hv' hg' HO HE
      simp only [Act.put, List.setIfInBounds_toArray, List.set_cons_zero, List.set_cons_succ]
      go_wp2
      go_ret
      obtain ⟨ho', ⟨g, cap, rfl⟩, hg'⟩ := HO'.out
      exact ⟨⟨_, rfl, g, cap, rfl, owns_range ho'⟩, hg'⟩
end Go.Proofs.YteijccjdejjbjaaDoor
