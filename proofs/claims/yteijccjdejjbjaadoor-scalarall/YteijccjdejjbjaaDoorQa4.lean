import Derived.Test.YteijccjdejjbjaaDoorQa3
import Derived.Deep.DeepCutAuto
namespace Go.Proofs.YteijccjdejjbjaaDoor
open Go.RowKit Go.Shelf ScalarNum

theorem yl_succ (n x : Nat) : yl n x ++ [.int .u8 ((dg 256 x n : Nat) : Int)] = yl (n + 1) x := by
  simp [yl, ds, List.range_succ]
theorem hI8 : ∃ i, Tryd.prog.info? 5 = some i ∧ i.zero = some (.int .u8 0) ∧ i.size = 1 ∧ i.bytes = 1 := by
  obtain ⟨i, hi⟩ : ∃ i, Tryd.prog.info? 5 = some i := Option.isSome_iff_exists.1 (by kernel_rfl)
  have h1 : (Tryd.prog.info? 5).map (fun i => (i.zero, i.size, i.bytes)) = some (some (.int .u8 0), 1, 1) := by kernel_rfl
  rw [hi] at h1
  simp at h1
  exact ⟨i, hi, h1.1, h1.2.1, h1.2.2⟩

/-- a slice that holds the bytes of a number -/
def SL (n x : Nat) (v : Value) (w : World) : Prop := ∃ g cap, v = .slice (some ⟨g, 0, none⟩) n cap ∧ w.rangeAt g 0 (yl n x)
theorem SL.grown {n x : Nat} {v : Value} {w w' : World} (h : SL n x v w) (hg : Grown w w') : SL n x v w' := by
  obtain ⟨g, cap, rfl, hr⟩ := h
  exact ⟨g, cap, rfl, rangeAt_grown hr hg⟩

set_option maxRecDepth 100000 in
set_option maxHeartbeats 1000000 in
theorem list_num (x : Nat) (w : World) : Calls Tryd.prog 52 #[yv 32 x] w fun e w' => (∃ v, e = .returned v ∧ SL 32 x v w') ∧ Grown w w' := by
  obtain ⟨ii, hi1, hi2, hi3, hi4⟩ := hI8
  have h0 := rangeAt_alloc_new w 23 (yl 32 x)
  have g0 : Grown w (w.alloc (.cells (yl 32 x).toArray 23)) := Grown.alloc (Grown.refl _) _ _
  rw [yv]
  go_enter Tryd.func52, Tryd.ntmps52
  go_wp2
  generalize (w.alloc (.cells (yl 32 x).toArray 23)) = W1 at *
  have H0 := Hid.of h0
  have G0 := Hid.of g0
  clear h0 g0
  go_loopw [3, 4] (fun v3 v4 wr => ∃ i : Nat, v4 = .int .i64 (i : Int) ∧ i ≤ 32 ∧ wr.ownsRow W1.heap.size 5 1 v3 i (yl i x) ∧ (i = 0 ∨ ∃ g cap, v3 = .slice (some ⟨g, 0, none⟩) i cap) ∧ Grown W1 wr) (fun _ v4 _ => 32 - (intOf v4).toNat)
  case atStart => exact ⟨0, rfl, by decide, World.ownsRow_nil _ _ _ _, .inl rfl, Grown.refl _⟩
  case round =>
    obtain ⟨i, rfl, hi, hown, hsl, hg⟩ := hrel
    by_cases hlt : i < 32
    · have d1 : wr.cell? ⟨w.heap.size, i, none⟩ = some (.int .u8 (dg 256 x i : Nat)) := by
        have := rangeAt_grown H0.out hg i _ (yl_get 32 x i hlt); rwa [Nat.zero_add] at this
      have b1 : (i : Int) < 32 := Int.ofNat_lt.2 hlt
      have HO := Hid.of hown
      have HG := Hid.of hg
      have HY := Hid.of (yl_succ i x)
      clear hown hg hsl
      generalize dg 256 x i = d at *
      go_wp2_with (with_reducible show wpList _ _ _ ({ dst := _, op := Op.call { callee := Callee.builtin Builtin.append, args := _, argTypes := _ }, type := _, pos := _, after := _, guard := _ } :: _) _ _; refine Shut.out ?_)
      show wpList _ _ _ _ _ _
      refine wpList_append_one (W0 := W1) rfl _ _ rfl Tryd.underlying64 hi1 hi2 hi3 hi4 rfl _ i (yl i x) rfl (HO.out.alloc _) ⟨wr.heap.size, 0, none⟩ 1 (.int .u8 (d : Int)) rfl (by simp [Addr.add]) rfl (by omega) (Grown.alloc HG.out _ _) ?_
      intro v' w' ho' hgr hv' hg'
      rw [HY.out] at ho'
      simp only [Act.put, List.setIfInBounds_toArray, List.set_cons_zero, List.set_cons_succ]
      have HO' := Hid.of ho'
      have HG' := Hid.of hg'
      have HV' := Hid.of hv'
      clear ho' hg' hv' hgr HO HG HY d1
      go_wp2
      go_roundw
      case rel => exact ⟨i + 1, by go_num, by omega, HO'.out, .inr HV'.out, HG'.out⟩
      case measure => simp [intOf]; omega
    · have hi32 : i = 32 := by omega
      subst hi32
      obtain ⟨g, cap, rfl⟩ := hsl.resolve_left (by decide)
      have HR := Hid.of (And.intro (owns_range hown) (grown_trans G0.out hg))
      clear hown hg hi hlt hsl
      go_wp2
      go_ret
      exact ⟨⟨_, rfl, g, cap, rfl, HR.out.1⟩, HR.out.2⟩
end Go.Proofs.YteijccjdejjbjaaDoor
namespace ScalarNum

/-- a column of a product: the first i rows -/
def cs (x y : Nat) : Nat → Nat → Nat
  | 0, _ => 0
  | i + 1, m => cs x y i m + (if i ≤ m then dg 256 x i * dg 256 y (m - i) else 0)
/-- K columns of the first i rows -/
def us (x y i : Nat) : Nat → Nat
  | 0 => 0
  | K + 1 => us x y i K + cs x y i K * 256 ^ K

theorem us_row (x y i : Nat) : ∀ K, us x y (i + 1) K = us x y i K + dg 256 x i * 256 ^ i * (y % 256 ^ (K - i))
  | 0 => by
    simp only [us]
    rw [Nat.zero_sub, Nat.pow_zero, Nat.mod_one, Nat.mul_zero]
  | K + 1 => by
    have ih := us_row x y i K
    simp only [us, cs]
    rw [ih]
    by_cases h : i ≤ K
    · rw [if_pos h]
      have e1 : K + 1 - i = (K - i) + 1 := by omega
      have e2 : 256 ^ K = 256 ^ i * 256 ^ (K - i) := by rw [← Nat.pow_add]; congr 1; omega
      rw [e1, mod_succ 256 y (K - i), Nat.add_mul, Nat.mul_add, e2]
      generalize 256 ^ i = P
      generalize 256 ^ (K - i) = R
      generalize dg 256 x i = a
      generalize dg 256 y (K - i) = b
      generalize y % R = z
      have e3 : a * b * (P * R) = a * P * (b * R) := by
        simp only [Nat.mul_left_comm, Nat.mul_comm]
      rw [e3]
      omega
    · rw [if_neg h, show K + 1 - i = 0 by omega, show K - i = 0 by omega]
      simp only [Nat.pow_zero, Nat.mod_one, Nat.mul_zero, Nat.add_zero]
theorem us_zero (x y : Nat) : ∀ K, us x y 0 K = 0
  | 0 => rfl
  | K + 1 => by simp only [us, cs]; rw [us_zero x y K, Nat.zero_mul]
theorem us_full {x y : Nat} (hy : y < M) : ∀ i, i ≤ 32 → us x y i 64 = x % 256 ^ i * y
  | 0, _ => by rw [us_zero, Nat.pow_zero, Nat.mod_one, Nat.zero_mul]
  | i + 1, h => by
    rw [us_row, us_full hy i (by omega), mod_succ]
    have e : y % 256 ^ (64 - i) = y := Nat.mod_eq_of_lt (Nat.lt_of_lt_of_le hy (by rw [show M = 256 ^ 32 from by decide]; exact Nat.pow_le_pow_right (by decide) (by omega)))
    rw [e, Nat.add_mul]
theorem us_mul {x y : Nat} (hx : x < M) (hy : y < M) : us x y 32 64 = x * y := by
  rw [us_full hy 32 (Nat.le_refl _), show (256 : Nat) ^ 32 = M from by decide, Nat.mod_eq_of_lt hx]
theorem cs_stop (x y k : Nat) : ∀ i, k + 1 ≤ i → cs x y i k = cs x y (k + 1) k
  | 0, h => by omega
  | i + 1, h => by
    by_cases e : k + 1 = i + 1
    · rw [e]
    · have := cs_stop x y k i (by omega)
      simp only [cs] at this ⊢
      rw [this, if_neg (show ¬ i ≤ k by omega), Nat.add_zero]
theorem cs_le (x y k : Nat) : ∀ i, cs x y i k ≤ i * 65025
  | 0 => by simp [cs]
  | i + 1 => by
    have ih := cs_le x y k i
    simp only [cs]
    have h1 : dg 256 x i ≤ 255 := Nat.le_of_lt_succ (dg_lt (by decide))
    have h2 : dg 256 y (k - i) ≤ 255 := Nat.le_of_lt_succ (dg_lt (by decide))
    have h3 : dg 256 x i * dg 256 y (k - i) ≤ 255 * 255 := Nat.mul_le_mul h1 h2
    generalize dg 256 x i * dg 256 y (k - i) = pr at *
    have h4 : pr ≤ 65025 := h3
    have h5 : (i + 1) * 65025 = i * 65025 + 65025 := Nat.succ_mul _ _
    rw [h5]
    split
    · exact Nat.add_le_add ih h4
    · exact Nat.le_trans (by rw [Nat.add_zero]; exact ih) (Nat.le_add_right _ _)
theorem dg_beyond {n y j : Nat} (hy : y < 256 ^ n) (h : n ≤ j) : dg 256 y j = 0 := by
  unfold dg
  rw [Nat.div_eq_of_lt (Nat.lt_of_lt_of_le hy (Nat.pow_le_pow_right (by decide) h)), Nat.zero_mod]
theorem cs_next {x y i k : Nat} (h : i ≤ k) : cs x y (i + 1) k = cs x y i k + dg 256 x i * dg 256 y (k - i) := by
  simp only [cs]; rw [if_pos h]

/-- a digit is laid down -/
theorem lay_step {D v T k : Nat} (hD : D < 256 ^ k) (h : D + v * 256 ^ k = T) : D + v % 256 * 256 ^ k < 256 ^ (k + 1) ∧ D + v % 256 * 256 ^ k + v / 256 * 256 ^ (k + 1) = T := by
  have h1 := Nat.div_add_mod v 256
  have h2 : v % 256 + 1 ≤ 256 := Nat.mod_lt _ (by decide)
  have h3 : (v % 256 + 1) * 256 ^ k ≤ 256 * 256 ^ k := Nat.mul_le_mul_right _ h2
  rw [Nat.add_mul] at h3
  rw [Nat.pow_succ]
  refine ⟨by omega, ?_⟩
  rw [← h, show v / 256 * (256 ^ k * 256) = 256 * (v / 256) * 256 ^ k by rw [Nat.mul_comm (256 ^ k), ← Nat.mul_assoc, Nat.mul_comm (v / 256)], Nat.add_assoc, ← Nat.add_mul, Nat.add_comm (v % 256), h1]
theorem dg_top {D d k : Nat} (hD : D < 256 ^ k) (hd : d < 256) : dg 256 (D + d * 256 ^ k) k = d := by
  unfold dg
  rw [Nat.add_mul_div_right _ _ (Nat.pow_pos (by decide)), Nat.div_eq_of_lt hD, Nat.zero_add, Nat.mod_eq_of_lt hd]
theorem dg_below {D d k j : Nat} (hj : j < k) : dg 256 (D + d * 256 ^ k) j = dg 256 D j := by
  rw [Nat.add_comm, dg_low (by decide) _ _ _ _ hj]
theorem add_step256 {D c x y i : Nat} (h : D + c * 256 ^ i = x % 256 ^ i + y % 256 ^ i) : D + (c + dg 256 x i + dg 256 y i) * 256 ^ i = x % 256 ^ (i + 1) + y % 256 ^ (i + 1) := by
  rw [mod_succ, mod_succ, Nat.add_mul, Nat.add_mul]
  omega
end ScalarNum
namespace Go.Proofs.YteijccjdejjbjaaDoor
open Go.RowKit Go.Shelf ScalarNum

theorem yl_lay {k D d : Nat} (hD : D < 256 ^ k) (hd : d < 256) : yl k D ++ [.int .u8 ((d : Nat) : Int)] = yl (k + 1) (D + d * 256 ^ k) := by
  have e1 : yl k D = yl k (D + d * 256 ^ k) := by
    unfold yl ds
    congr 1
    apply List.map_congr_left
    intro j hj
    rw [dg_below (by simpa using hj)]
  rw [e1]
  have := yl_succ k (D + d * 256 ^ k)
  rwa [dg_top hD hd] at this
theorem u8_of (s : Nat) : IntKind.u8.wrap ((s % 256 : Nat) : Int) = ((s % 256 : Nat) : Int) := by rw [IntKind.wrap_u8]; omega

theorem sumb (c xi yi : Nat) (hc : c ≤ 1) (hx : xi < 256) (hy : yi < 256) : (c : Int) + (xi : Int) + (yi : Int) = ((c + xi + yi : Nat) : Int) ∧ c + xi + yi < 513 ∧ (c + xi + yi) / 256 ≤ 1 := by omega

structure OX (w0 : World) (v : Value) (k D : Nat) (wr : World) : Prop where
  own : wr.ownsRow w0.heap.size 5 1 v k (yl k D)
  sl : k = 0 ∨ ∃ g cap, v = .slice (some ⟨g, 0, none⟩) k cap
  lt : D < 256 ^ k
  gw : Grown w0 wr

set_option maxRecDepth 100000 in
set_option maxHeartbeats 2000000 in
theorem added_num (ga na ca x gb nb cb y : Nat) (hna : na < 1048576) (hle : nb ≤ na) (hx : x < 256 ^ na) (hy : y < 256 ^ nb) (w : World) (ha : w.rangeAt ga 0 (yl na x)) (hb : w.rangeAt gb 0 (yl nb y)) :
    Calls Tryd.prog 53 #[.slice (some ⟨ga, 0, none⟩) na ca, .slice (some ⟨gb, 0, none⟩) nb cb] w fun e w' => (∃ v, e = .returned v ∧ SL (na + 1) (x + y) v w') ∧ Grown w w' := by
  obtain ⟨ii, hi1, hi2, hi3, hi4⟩ := hI8
  have HA := Hid.of ha
  have HB := Hid.of hb
  have HX := Hid.of hx
  have HY := Hid.of hy
  clear ha hb hx hy
  go_enter Tryd.func53, Tryd.ntmps53
  go_wp2
  go_loopw [5, 6, 7] (fun v5 v6 v7 wr => ∃ i D c : Nat, v7 = .int .i64 (i : Int) ∧ v6 = .int .i64 (c : Int) ∧ i ≤ na ∧ c ≤ 1 ∧ D + c * 256 ^ i = x % 256 ^ i + y % 256 ^ i ∧ OX w v5 i D wr) (fun _ _ v7 _ => na - (intOf v7).toNat)
  case atStart => exact ⟨0, 0, 0, rfl, rfl, Nat.zero_le _, by decide, by simp [Nat.mod_one], World.ownsRow_nil _ _ _ _, .inl rfl, by decide, Grown.refl _⟩
  case round =>
    obtain ⟨i, D, c, rfl, rfl, hi, hc, he, hO⟩ := hrel
    have HO := Hid.of hO
    clear hO
    by_cases hlt : i < na
    · have b1 : (i : Int) < (na : Int) := Int.ofNat_lt.2 hlt
      have d1 : wr.cell? ⟨ga, i, none⟩ = some (.int .u8 (dg 256 x i : Nat)) := by
        have := rangeAt_grown HA.out HO.out.gw i _ (yl_get na x i hlt); rwa [Nat.zero_add] at this
      have hxi : dg 256 x i < 256 := dg_lt (by decide)
      have hyi : dg 256 y i < 256 := dg_lt (by decide)
      have hst := add_step256 he
      have e1 := w64s _ hxi
      by_cases hlb : i < nb
      · have b2 : (i : Int) < (nb : Int) := Int.ofNat_lt.2 hlb
        have d2 : wr.cell? ⟨gb, i, none⟩ = some (.int .u8 (dg 256 y i : Nat)) := by
          have := rangeAt_grown HB.out HO.out.gw i _ (yl_get nb y i hlb); rwa [Nat.zero_add] at this
        have e2 := w64s _ hyi
        generalize dg 256 x i = xi at *
        generalize dg 256 y i = yi at *
        obtain ⟨es, hs2, hs3⟩ := sumb c xi yi hc hxi hyi
        generalize c + xi + yi = s at *
        have q1 := tmods s
        have q2 := tdivs s
        have q3 := u8_of s
        have HL := Hid.of (And.intro hst hs3)
        clear hst he hxi hyi hs3
        go_wp2_with (with_reducible show wpList _ _ _ ({ dst := _, op := Op.call { callee := Callee.builtin Builtin.append, args := _, argTypes := _ }, type := _, pos := _, after := _, guard := _ } :: _) _ _; refine Shut.out ?_)
        show wpList _ _ _ _ _ _
        rw [show ((s : Int) % 256) = ((s % 256 : Nat) : Int) from by simp]
        refine wpList_append_one (W0 := w) rfl _ _ rfl Tryd.underlying64 hi1 hi2 hi3 hi4 rfl _ i (yl i D) rfl (HO.out.own.alloc _) ⟨wr.heap.size, 0, none⟩ 1 (.int .u8 ((s % 256 : Nat) : Int)) rfl (by simp [Addr.add]) rfl (Nat.lt_trans hlt (Nat.lt_trans hna (by decide))) (Grown.alloc HO.out.gw _ _) ?_
        intro v' w' ho' hgr hv' hg'
        rw [yl_lay HO.out.lt (Nat.mod_lt _ (by decide))] at ho'
        obtain ⟨l1, l2⟩ := lay_step HO.out.lt HL.out.1
        have HO' := Hid.of (show OX w v' (i + 1) (D + s % 256 * 256 ^ i) w' from ⟨ho', .inr hv', l1, hg'⟩)
        have HL' := Hid.of (And.intro l2 HL.out.2)
        clear ho' hgr hv' hg' l1 l2 HO HL d1 d2
        simp only [Act.put, List.setIfInBounds_toArray, List.set_cons_zero, List.set_cons_succ]
        go_wp2
        go_roundw
        case rel => exact ⟨i + 1, D + s % 256 * 256 ^ i, s / 256, by go_num, by simp, hlt, HL'.out.2, HL'.out.1, HO'.out⟩
        case measure => simp [intOf]; omega
      · have b2 : ¬ (i : Int) < (nb : Int) := fun h => hlb (Int.ofNat_lt.1 h)
        have hy0 : dg 256 y i = 0 := dg_beyond HY.out (Nat.le_of_not_lt hlb)
        rw [hy0] at hst hyi
        generalize dg 256 x i = xi at *
        obtain ⟨es, hs2, hs3⟩ := sumb c xi 0 hc hxi hyi
        rw [Nat.add_zero] at hst hs2 hs3
        rw [show ((0 : Nat) : Int) = 0 from rfl, Int.add_zero, Nat.add_zero] at es
        generalize c + xi = s at *
        have q1 := tmods s
        have q2 := tdivs s
        have q3 := u8_of s
        have HL := Hid.of (And.intro hst hs3)
        clear hst he hxi hyi hs3 hy0
        go_wp2_with (with_reducible show wpList _ _ _ ({ dst := _, op := Op.call { callee := Callee.builtin Builtin.append, args := _, argTypes := _ }, type := _, pos := _, after := _, guard := _ } :: _) _ _; refine Shut.out ?_)
        show wpList _ _ _ _ _ _
        rw [show ((s : Int) % 256) = ((s % 256 : Nat) : Int) from by simp]
        refine wpList_append_one (W0 := w) rfl _ _ rfl Tryd.underlying64 hi1 hi2 hi3 hi4 rfl _ i (yl i D) rfl (HO.out.own.alloc _) ⟨wr.heap.size, 0, none⟩ 1 (.int .u8 ((s % 256 : Nat) : Int)) rfl (by simp [Addr.add]) rfl (Nat.lt_trans hlt (Nat.lt_trans hna (by decide))) (Grown.alloc HO.out.gw _ _) ?_
        intro v' w' ho' hgr hv' hg'
        rw [yl_lay HO.out.lt (Nat.mod_lt _ (by decide))] at ho'
        obtain ⟨l1, l2⟩ := lay_step HO.out.lt HL.out.1
        have HO' := Hid.of (show OX w v' (i + 1) (D + s % 256 * 256 ^ i) w' from ⟨ho', .inr hv', l1, hg'⟩)
        have HL' := Hid.of (And.intro l2 HL.out.2)
        clear ho' hgr hv' hg' l1 l2 HO HL d1
        simp only [Act.put, List.setIfInBounds_toArray, List.set_cons_zero, List.set_cons_succ]
        go_wp2
        go_roundw
        case rel => exact ⟨i + 1, D + s % 256 * 256 ^ i, s / 256, by go_num, by simp, hlt, HL'.out.2, HL'.out.1, HO'.out⟩
        case measure => simp [intOf]; omega
    · have hin : i = na := by omega
      subst hin
      have b1 : ¬ (i : Int) < (nb : Int) := fun h => by have := Int.ofNat_lt.1 h; omega
      rw [Nat.mod_eq_of_lt HX.out, Nat.mod_eq_of_lt (Nat.lt_of_lt_of_le HY.out (Nat.pow_le_pow_right (by decide) hle))] at he
      have q3 : IntKind.u8.wrap (c : Int) = (c : Int) := by rw [IntKind.wrap_u8]; omega
      have HE := Hid.of he
      clear he
      go_wp2_with (with_reducible show wpList _ _ _ ({ dst := _, op := Op.call { callee := Callee.builtin Builtin.append, args := _, argTypes := _ }, type := _, pos := _, after := _, guard := _ } :: _) _ _; refine Shut.out ?_)
      show wpList _ _ _ _ _ _
      try rw [show ((c : Int) % 256) = (c : Int) from by omega]
      refine wpList_append_one (W0 := w) rfl _ _ rfl Tryd.underlying64 hi1 hi2 hi3 hi4 rfl _ i (yl i D) rfl (HO.out.own.alloc _) ⟨wr.heap.size, 0, none⟩ 1 (.int .u8 (c : Int)) rfl (by simp [Addr.add]) rfl (Nat.lt_trans hna (by decide)) (Grown.alloc HO.out.gw _ _) ?_
      intro v' w' ho' hgr hv' hg'
      rw [yl_lay HO.out.lt (show c < 256 by omega), HE.out] at ho'
      have HO' := Hid.of (And.intro ho' (And.intro hv' hg'))
      clear ho' hgr hv' hg' HO HE
      simp only [Act.put, List.setIfInBounds_toArray, List.set_cons_zero, List.set_cons_succ]
      go_wp2
      go_ret
      obtain ⟨ho', ⟨g, cap, rfl⟩, hg'⟩ := HO'.out
      exact ⟨⟨_, rfl, g, cap, rfl, owns_range ho'⟩, hg'⟩
end Go.Proofs.YteijccjdejjbjaaDoor
namespace Go.Proofs.YteijccjdejjbjaaDoor
open Go.RowKit Go.Shelf ScalarNum

theorem OX.drewN {w0 : World} {v : Value} {k D : Nat} {wr : World} (h : OX w0 v k D wr) (n : Nat) : OX w0 v k D (wr.drewN n) := ⟨h.own, h.sl, h.lt, h.gw⟩
theorem mulb (a b : Nat) (ha : a < 256) (hb : b < 256) : a * b ≤ 65025 := Nat.mul_le_mul (Nat.le_of_lt_succ (n := 255) ha) (Nat.le_of_lt_succ (n := 255) hb)
theorem carry_le (s : Nat) (h : s ≤ 1000000 + 32 * 65025) : s / 256 ≤ 1000000 := by omega
theorem prod_end {D c P : Nat} (h : D + c * 256 ^ 64 = P) (hD : D < 256 ^ 64) (hP : P < M * M) : D = P := by
  have e : (256 : Nat) ^ 64 = M * M := by decide
  rw [e] at h hD
  rcases c with _ | c
  · omega
  · exfalso
    have : M * M ≤ (c + 1) * (M * M) := Nat.le_mul_of_pos_left _ (by omega)
    omega

set_option maxRecDepth 100000 in
set_option maxHeartbeats 2000000 in
theorem product_num (ga ca x gb cb y : Nat) (hx : x < M) (hy : y < M) (w : World) (ha : w.rangeAt ga 0 (yl 32 x)) (hb : w.rangeAt gb 0 (yl 32 y)) :
    Calls Tryd.prog 51 #[.slice (some ⟨ga, 0, none⟩) 32 ca, .slice (some ⟨gb, 0, none⟩) 32 cb] w fun e w' => (∃ v, e = .returned v ∧ SL 64 (x * y) v w') ∧ Grown w w' := by
  obtain ⟨ii, hi1, hi2, hi3, hi4⟩ := hI8
  have HA := Hid.of ha
  have HB := Hid.of hb
  have HXY := Hid.of (And.intro hx hy)
  have HY0 := Hid.of (fun j (h : 32 ≤ j) => dg_beyond (n := 32) (y := y) (j := j) (by rw [show (256 : Nat) ^ 32 = M from by decide]; exact hy) h)
  clear ha hb hx hy
  go_enter Tryd.func51, Tryd.ntmps51
  go_wp2
  go_loopw [5, 6, 7] (fun v5 v6 v7 wr => ∃ k D c : Nat, v7 = .int .i64 (k : Int) ∧ v6 = .int .i64 (c : Int) ∧ k ≤ 64 ∧ c ≤ 1000000 ∧ D + c * 256 ^ k = us x y 32 k ∧ OX w v5 k D wr) (fun _ _ v7 _ => 64 - (intOf v7).toNat)
  case atStart => exact ⟨0, 0, 0, rfl, rfl, by decide, by decide, rfl, World.ownsRow_nil _ _ _ _, .inl rfl, by decide, Grown.refl _⟩
  case round =>
    obtain ⟨k, D, c, rfl, rfl, hk, hc, he, hO⟩ := hrel
    have HO := Hid.of hO
    have HE := Hid.of he
    clear hO he
    by_cases hlt : k < 64
    · have b1 : (k : Int) < 64 := Int.ofNat_lt.2 hlt
      go_wp2
      go_loopw [8, 9] (fun v8 v9 wr => ∃ i s : Nat, v9 = .int .i64 (i : Int) ∧ v8 = .int .i64 (s : Int) ∧ i ≤ 32 ∧ i ≤ k + 1 ∧ s = c + cs x y i k ∧ OX w u5 k D wr) (fun _ v9 _ => 32 - (intOf v9).toNat)
      case atStart => exact ⟨0, c, rfl, rfl, by decide, Nat.zero_le _, rfl, HO.out⟩
      case round =>
        obtain ⟨i, s, rfl, rfl, hi, hik, hs, hO2⟩ := hrel
        have HO2 := Hid.of hO2
        clear HO hO2
        have hcs := cs_le x y k i
        have hs3 : s ≤ 1000000 + 32 * 65025 := by
          rw [hs]; exact Nat.add_le_add hc (Nat.le_trans hcs (Nat.mul_le_mul_right _ hi))
        by_cases h1 : i < 32
        · have b2 : (i : Int) < 32 := Int.ofNat_lt.2 h1
          by_cases h2 : i ≤ k
          · have b3 : (i : Int) ≤ (k : Int) := Int.ofNat_le.2 h2
            have hnx := cs_next (x := x) (y := y) h2
            have d1 : wr.cell? ⟨ga, i, none⟩ = some (.int .u8 (dg 256 x i : Nat)) := by
              have := rangeAt_grown HA.out HO2.out.gw i _ (yl_get 32 x i h1); rwa [Nat.zero_add] at this
            have ekn : (k : Int) - (i : Int) = ((k - i : Nat) : Int) := by omega
            have hki : k - i < 64 := by omega
            by_cases h3 : k - i < 32
            · have d2 : wr.cell? ⟨gb, k - i, none⟩ = some (.int .u8 (dg 256 y (k - i) : Nat)) := by
                have := rangeAt_grown HB.out HO2.out.gw (k - i) _ (yl_get 32 y (k - i) h3); rwa [Nat.zero_add] at this
              have hxi : dg 256 x i < 256 := dg_lt (by decide)
              have hyi : dg 256 y (k - i) < 256 := dg_lt (by decide)
              have e1 := w64s _ hxi
              have e2 := w64s _ hyi
              have hm := mulb _ _ hxi hyi
              have HN := Hid.of (show s + dg 256 x i * dg 256 y (k - i) = c + cs x y (i + 1) k by rw [hnx, hs, Nat.add_assoc])
              clear hnx hs hcs
              generalize dg 256 x i = xi at *
              generalize dg 256 y (k - i) = yi at *
              have b4 : ((k - i : Nat) : Int) < 32 := Int.ofNat_lt.2 h3
              have em : (xi : Int) * (yi : Int) = ((xi * yi : Nat) : Int) := by simp
              generalize xi * yi = pr at *
              generalize k - i = kj at *
              go_wp2
              go_quiet (fail)
              go_wp2
              go_roundw
              case rel => exact ⟨i + 1, s + pr, by go_num, by simp, h1, Nat.succ_le_succ h2, HN.out, HO2.out.drewN _⟩
              case measure => simp [intOf]; omega
            · have b4 : ¬ ((k - i : Nat) : Int) < 32 := fun h => h3 (Int.ofNat_lt.1 h)
              have HN := Hid.of (show s = c + cs x y (i + 1) k by rw [hnx, hs, HY0.out (k - i) (Nat.le_of_not_lt h3), Nat.mul_zero, Nat.add_zero])
              clear hnx hs hcs d1
              generalize k - i = kj at *
              go_wp2
              go_roundw
              case rel => exact ⟨i + 1, s, by go_num, rfl, h1, Nat.succ_le_succ h2, HN.out, HO2.out⟩
              case measure => simp [intOf]; omega
          · have b3 : ¬ (i : Int) ≤ (k : Int) := fun h => h2 (Int.ofNat_le.1 h)
            have hs9 : s = c + cs x y 32 k := by
              have hik2 : i = k + 1 := by omega
              rw [hs, hik2, cs_stop x y k 32 (by omega)]
            have q1 := tmods s
            have q2 := tdivs s
            have q3 := u8_of s
            have hc2 := carry_le s hs3
            have HL := Hid.of (show D + s * 256 ^ k = us x y 32 (k + 1) by rw [hs9, Nat.add_mul]; simp only [us]; rw [← HE.out]; omega)
            clear hs hs9 hcs
            go_wp2_with (with_reducible show wpList _ _ _ ({ dst := _, op := Op.call { callee := Callee.builtin Builtin.append, args := _, argTypes := _ }, type := _, pos := _, after := _, guard := _ } :: _) _ _; refine Shut.out ?_)
            show wpList _ _ _ _ _ _
            rw [show ((s : Int) % 256) = ((s % 256 : Nat) : Int) from by simp]
            refine wpList_append_one (W0 := w) rfl _ _ rfl Tryd.underlying64 hi1 hi2 hi3 hi4 rfl _ k (yl k D) rfl (HO2.out.own.alloc _) ⟨wr.heap.size, 0, none⟩ 1 (.int .u8 ((s % 256 : Nat) : Int)) rfl (by simp [Addr.add]) rfl (Nat.lt_trans hlt (by decide)) (Grown.alloc HO2.out.gw _ _) ?_
            intro v' w' ho' hgr hv' hg'
            rw [yl_lay HO2.out.lt (Nat.mod_lt _ (by decide))] at ho'
            obtain ⟨l1, l2⟩ := lay_step HO2.out.lt HL.out
            have HO' := Hid.of (show OX w v' (k + 1) (D + s % 256 * 256 ^ k) w' from ⟨ho', .inr hv', l1, hg'⟩)
            have HL' := Hid.of (And.intro l2 hc2)
            clear ho' hgr hv' hg' l1 l2 HO2 HL hc2 HE
            simp only [Act.put, List.setIfInBounds_toArray, List.set_cons_zero, List.set_cons_succ]
            go_wp2
            go_roundw
            case rel => exact ⟨k + 1, D + s % 256 * 256 ^ k, s / 256, by go_num, by simp, hlt, HL'.out.2, HL'.out.1, HO'.out⟩
            case measure => simp [intOf]; omega
        · have b2 : ¬ (i : Int) < 32 := fun h => h1 (Int.ofNat_lt.1 h)
          have hs9 : s = c + cs x y 32 k := by
            have hi32 : i = 32 := by omega
            rw [hs, hi32]
          have q1 := tmods s
          have q2 := tdivs s
          have q3 := u8_of s
          have hc2 := carry_le s hs3
          have HL := Hid.of (show D + s * 256 ^ k = us x y 32 (k + 1) by rw [hs9, Nat.add_mul]; simp only [us]; rw [← HE.out]; omega)
          clear hs hs9 hcs
          go_wp2_with (with_reducible show wpList _ _ _ ({ dst := _, op := Op.call { callee := Callee.builtin Builtin.append, args := _, argTypes := _ }, type := _, pos := _, after := _, guard := _ } :: _) _ _; refine Shut.out ?_)
          show wpList _ _ _ _ _ _
          rw [show ((s : Int) % 256) = ((s % 256 : Nat) : Int) from by simp]
          refine wpList_append_one (W0 := w) rfl _ _ rfl Tryd.underlying64 hi1 hi2 hi3 hi4 rfl _ k (yl k D) rfl (HO2.out.own.alloc _) ⟨wr.heap.size, 0, none⟩ 1 (.int .u8 ((s % 256 : Nat) : Int)) rfl (by simp [Addr.add]) rfl (Nat.lt_trans hlt (by decide)) (Grown.alloc HO2.out.gw _ _) ?_
          intro v' w' ho' hgr hv' hg'
          rw [yl_lay HO2.out.lt (Nat.mod_lt _ (by decide))] at ho'
          obtain ⟨l1, l2⟩ := lay_step HO2.out.lt HL.out
          have HO' := Hid.of (show OX w v' (k + 1) (D + s % 256 * 256 ^ k) w' from ⟨ho', .inr hv', l1, hg'⟩)
          have HL' := Hid.of (And.intro l2 hc2)
          clear ho' hgr hv' hg' l1 l2 HO2 HL hc2 HE
          simp only [Act.put, List.setIfInBounds_toArray, List.set_cons_zero, List.set_cons_succ]
          go_wp2
          go_roundw
          case rel => exact ⟨k + 1, D + s % 256 * 256 ^ k, s / 256, by go_num, by simp, hlt, HL'.out.2, HL'.out.1, HO'.out⟩
          case measure => simp [intOf]; omega
    · have hk4 : k = 64 := by omega
      subst hk4
      have HE2 := Hid.of (prod_end (HE.out.trans (us_mul HXY.out.1 HXY.out.2)) HO.out.lt (Nat.mul_lt_mul'' HXY.out.1 HXY.out.2))
      have hsl := HO.out.sl
      obtain ⟨g, cap, rfl⟩ := hsl.resolve_left (by decide)
      clear hsl HE hk hlt hc
      go_wp2
      go_ret
      have hr := owns_range HO.out.own
      rw [HE2.out] at hr
      exact ⟨⟨_, rfl, g, cap, rfl, hr⟩, HO.out.gw⟩
end Go.Proofs.YteijccjdejjbjaaDoor
namespace Go.Proofs.YteijccjdejjbjaaDoor
open Go.RowKit Go.Shelf ScalarNum

theorem keep3b {W w1 w2 : World} {b1 b2 b3 : Nat} {xs ys : List Value} (h : w1.rangeAt b1 0 xs ∧ w1.rangeAt b2 0 ys ∧ w1.there b3 0 32 ∧ Grown W w1) (hg : Grown w1 w2) :
    w2.rangeAt b1 0 xs ∧ w2.rangeAt b2 0 ys ∧ w2.there b3 0 32 ∧ Grown W w2 :=
  ⟨rangeAt_grown h.1 hg, rangeAt_grown h.2.1 hg, there_grown h.2.2.1 hg, grown_trans h.2.2.2 hg⟩
theorem M_pow : M = 256 ^ 32 := by decide
theorem sum_lt {x y : Nat} (hx : x < M) (hy : y < M) : x + y < 256 ^ 33 := by
  have : M + M ≤ 256 ^ 33 := by decide
  omega

set_option maxRecDepth 100000 in
set_option maxHeartbeats 1000000 in
theorem refAdd_num (x y : Nat) (hx : x < M) (hy : y < M) (w : World) (hO : w.rangeAt 1 0 (yl 32 L)) : Calls Tryd.prog 30 #[yv 32 x, yv 32 y] w fun e w' => e = .returned (yv 32 (sadd x y)) ∧ Grown w w' := by
  have h0 := alloc3b w 23 (yl 32 x) (yl 32 y) (yl 32 0).toArray
  rw [show (yl 32 0).toArray.size = 32 from rfl] at h0
  have HO := Hid.of hO
  clear hO
  rw [yv, yv]
  go_enter Tryd.func30, Tryd.ntmps30
  go_wp2
  rw [← yl32_zero]
  generalize (((w.alloc (.cells (yl 32 x).toArray 23)).alloc (.cells (yl 32 y).toArray 23)).alloc (.cells (yl 32 0).toArray 23)) = W0 at *
  refine wp_region_noPanic ?_
  refine wp_region_held_drew (S := fun w' => w'.rangeAt w.heap.size 0 (yl 32 x) ∧ w'.rangeAt (w.heap.size + 1) 0 (yl 32 y) ∧ w'.there (w.heap.size + 1 + 1) 0 32 ∧ Grown w w') (by kernel_rfl) h0 (fun hH => ?_)
  clear h0
  refine take32 0 (x) (w.heap.size) rfl (by kernel_rfl) (by kernel_rfl) (by kernel_rfl) (fun _ _ _ h => h) (by rfl) rfl rfl (fun _ h => h.1) hH ?_
  simp only [Act.put, List.setIfInBounds_toArray, List.set_cons_zero, List.set_cons_succ]
  refine take32 2 (y) (w.heap.size + 1) rfl (by kernel_rfl) (by kernel_rfl) (by kernel_rfl) (fun _ _ _ h => h) (by rfl) rfl rfl (fun _ h => h.2.1) hH ?_
  simp only [Act.put, List.setIfInBounds_toArray, List.set_cons_zero, List.set_cons_succ]
  refine step1 1 (by kernel_rfl) rfl (fun K hK => ?_)
  go_simp
  refine Calls.mono (list_num x _) ?_
  rintro e w1 ⟨⟨v1, rfl, hs1⟩, hg1⟩
  dsimp only
  refine hK.out _ _ (keep3b hH hg1) (fun hH => ?_)
  clear hK K
  refine step1 3 (by kernel_rfl) rfl (fun K hK => ?_)
  go_simp
  refine Calls.mono (list_num y _) ?_
  rintro e w2 ⟨⟨v2, rfl, hs2⟩, hg2⟩
  dsimp only
  refine hK.out _ _ (keep3b hH hg2) (fun hH => ?_)
  clear hK K
  obtain ⟨g1, c1, rfl, r1⟩ := hs1.grown hg2
  obtain ⟨g2, c2, rfl, r2⟩ := hs2
  clear hs1
  refine step1 4 (by kernel_rfl) rfl (fun K hK => ?_)
  go_simp
  refine Calls.mono (added_num g1 32 c1 x g2 32 c2 y (by decide) (by decide) (by rw [← M_pow]; exact hx) (by rw [← M_pow]; exact hy) _ r1 r2) ?_
  rintro e w3 ⟨⟨v3, rfl, hs3⟩, hg3⟩
  dsimp only
  refine hK.out _ _ (keep3b hH hg3) (fun hH => ?_)
  clear hK K
  obtain ⟨g3, c3, rfl, r3⟩ := hs3
  refine step1 5 (by kernel_rfl) rfl (fun K hK => ?_)
  go_simp
  refine Calls.mono (rest_num g3 33 (x + y) c3 (by decide) (sum_lt hx hy) _ r3 (rangeAt_grown HO.out hH.2.2.2)) ?_
  rintro e w4 ⟨rfl, hg4⟩
  dsimp only
  refine hK.out _ _ (keep3b hH hg4) (fun hH => ?_)
  clear hK K
  obtain ⟨hr1, hr2, hth, hgw⟩ := hH
  rw [show (x + y) % L = sadd x y from rfl]
  refine step1 6 (by kernel_rfl) rfl (fun K hK => ?_)
  refine store32 (sadd x y) (w.heap.size + 1 + 1) rfl (by rfl) rfl rfl hth ?_
  simp only [Act.put]
  refine hK.out _ _ ⟨World.rangeAt_setCells_apart hr1 _ _ _ (by left; omega), World.rangeAt_setCells_apart hr2 _ _ _ (by left; omega), World.there_setCells hth _ _ _, grown_setCells (by omega) _ _ hgw⟩ (fun _ => ?_)
  clear hK K
  refine wpAnyH_done (by kernel_rfl) ?_ _
  refine NoPanic.normal ?_
  repeat go_step
  refine bodyPost_ret (v := yv 32 (sadd x y)) (result32 Tryd.results30 _ _ (w.heap.size + 1 + 1) _ ?hp (World.rangeAt_setCells_same _ _ _ _ (by rw [yl_length]; exact hth))) ?hd ?_
  case hp => rfl
  case hd => rfl
  exact ⟨rfl, grown_setCells (by omega) _ _ hgw⟩

theorem pl_lt {x y z : Nat} (hx : x < M) (hy : y < M) (hz : z < M) : x * y + z < 256 ^ 65 := Nat.lt_trans (timesM hx hy hz) (by decide)
theorem mul_lt64 {x y : Nat} (hx : x < M) (hy : y < M) : x * y < 256 ^ 64 := by
  rw [show (256 : Nat) ^ 64 = M * M from by decide]; exact Nat.mul_lt_mul'' hx hy

set_option maxRecDepth 100000 in
set_option maxHeartbeats 1000000 in
theorem refMulAdd_num (x y z : Nat) (hx : x < M) (hy : y < M) (hz : z < M) (w : World) (hO : w.rangeAt 1 0 (yl 32 L)) : Calls Tryd.prog 29 #[yv 32 x, yv 32 y, yv 32 z] w fun e w' => e = .returned (yv 32 (smad x y z)) ∧ Grown w w' := by
  have h0 := alloc4b w 23 (yl 32 x) (yl 32 y) (yl 32 z) (yl 32 0).toArray
  rw [show (yl 32 0).toArray.size = 32 from rfl] at h0
  have HO := Hid.of hO
  clear hO
  rw [yv, yv, yv]
  go_enter Tryd.func29, Tryd.ntmps29
  go_wp2
  rw [← yl32_zero]
  generalize ((((w.alloc (.cells (yl 32 x).toArray 23)).alloc (.cells (yl 32 y).toArray 23)).alloc (.cells (yl 32 z).toArray 23)).alloc (.cells (yl 32 0).toArray 23)) = W0 at *
  refine wp_region_noPanic ?_
  refine wp_region_held_drew (S := fun w' => w'.rangeAt w.heap.size 0 (yl 32 x) ∧ w'.rangeAt (w.heap.size + 1) 0 (yl 32 y) ∧ w'.rangeAt (w.heap.size + 1 + 1) 0 (yl 32 z) ∧ w'.there (w.heap.size + 1 + 1 + 1) 0 32 ∧ Grown w w') (by kernel_rfl) h0 (fun hH => ?_)
  clear h0
  refine take32 0 (x) (w.heap.size) rfl (by kernel_rfl) (by kernel_rfl) (by kernel_rfl) (fun _ _ _ h => h) (by rfl) rfl rfl (fun _ h => h.1) hH ?_
  simp only [Act.put, List.setIfInBounds_toArray, List.set_cons_zero, List.set_cons_succ]
  refine take32 2 (y) (w.heap.size + 1) rfl (by kernel_rfl) (by kernel_rfl) (by kernel_rfl) (fun _ _ _ h => h) (by rfl) rfl rfl (fun _ h => h.2.1) hH ?_
  simp only [Act.put, List.setIfInBounds_toArray, List.set_cons_zero, List.set_cons_succ]
  refine step1 1 (by kernel_rfl) rfl (fun K hK => ?_)
  go_simp
  refine Calls.mono (list_num x _) ?_
  rintro e w1 ⟨⟨v1, rfl, hs1⟩, hg1⟩
  dsimp only
  refine hK.out _ _ (keep4 hH hg1) (fun hH => ?_)
  clear hK K
  refine step1 3 (by kernel_rfl) rfl (fun K hK => ?_)
  go_simp
  refine Calls.mono (list_num y _) ?_
  rintro e w2 ⟨⟨v2, rfl, hs2⟩, hg2⟩
  dsimp only
  refine hK.out _ _ (keep4 hH hg2) (fun hH => ?_)
  clear hK K
  obtain ⟨g1, c1, rfl, r1⟩ := hs1.grown hg2
  obtain ⟨g2, c2, rfl, r2⟩ := hs2
  clear hs1
  refine step1 4 (by kernel_rfl) rfl (fun K hK => ?_)
  go_simp
  refine Calls.mono (product_num g1 c1 x g2 c2 y hx hy _ r1 r2) ?_
  rintro e w3 ⟨⟨v3, rfl, hs3⟩, hg3⟩
  dsimp only
  refine hK.out _ _ (keep4 hH hg3) (fun hH => ?_)
  clear hK K
  refine takeV 5 v3 rfl (by kernel_rfl) (by kernel_rfl) (by kernel_rfl) (fun _ _ _ h => h) (by rfl) (fun w _ => rfl) hH ?_
  simp only [Act.put, List.setIfInBounds_toArray, List.set_cons_zero, List.set_cons_succ]
  refine wpAnyH_done (by kernel_rfl) ?_ _
  refine NoPanic.normal ?_
  have H9 := Hid.of hH
  have HS3 := Hid.of hs3
  clear hH hs3 hg1 hg2 hg3 r1 r2
  go_wp2_with (with_reducible show wpList _ _ _ ({ dst := _, op := Op.load 23 _, type := _, pos := _, after := _, guard := _ } :: _) _ _; refine Shut.out ?_)
  show wpList _ _ _ _ _ _
  refine wpList_load32 rfl _ rfl (w.heap.size + 1 + 1) rfl z H9.out.2.2.1 ?_
  simp only [Act.put, List.setIfInBounds_toArray, List.set_cons_zero, List.set_cons_succ]
  go_wp2_with fail
  refine Calls.mono (list_num z _) ?_
  rintro e w4 ⟨⟨v4, rfl, hs4⟩, hg4⟩
  dsimp only
  obtain ⟨g3, c3, rfl, r3⟩ := HS3.out.grown hg4
  obtain ⟨g4, c4, rfl, r4⟩ := hs4
  go_wp2_with fail
  refine Calls.mono (added_num g3 64 c3 (x * y) g4 32 c4 z (by decide) (by decide) (mul_lt64 hx hy) (by rw [← M_pow]; exact hz) _ r3 r4) ?_
  rintro e w5 ⟨⟨v5, rfl, hs5⟩, hg5⟩
  dsimp only
  obtain ⟨g5, c5, rfl, r5⟩ := hs5
  go_wp2_with fail
  refine Calls.mono (rest_num g5 65 (x * y + z) c5 (by decide) (pl_lt hx hy hz) _ r5 (rangeAt_grown HO.out (grown_trans H9.out.2.2.2.2 (grown_trans hg4 hg5)))) ?_
  rintro e w6 ⟨rfl, hg6⟩
  dsimp only
  rw [show (x * y + z) % L = smad x y z from rfl]
  have gg := grown_trans hg4 (grown_trans hg5 hg6)
  have H8 := Hid.of (And.intro (there_grown H9.out.2.2.2.1 gg) (grown_trans H9.out.2.2.2.2 gg))
  clear H9 HS3 hg4 hg5 hg6 gg r3 r4 r5
  go_wp2_with (with_reducible show wpList _ _ _ ({ dst := _, op := Op.store 23 _ _, type := _, pos := _, after := _, guard := _ } :: _) _ _; refine Shut.out ?_)
  show wpList _ _ _ _ _ _
  refine wpList_store32 rfl _ _ rfl (w.heap.size + 1 + 1 + 1) (smad x y z) rfl rfl (H8.out.1) ?_
  simp only [Act.put]
  apply wpList_nil
  repeat go_step
  refine bodyPost_ret (v := yv 32 (smad x y z)) (result32 Tryd.results29 _ _ (w.heap.size + 1 + 1 + 1) _ ?hp (World.rangeAt_setCells_same _ _ _ _ (by rw [yl_length]; exact H8.out.1))) ?hd ?_
  case hp => rfl
  case hd => rfl
  exact ⟨rfl, grown_setCells (by omega) _ _ (H8.out.2)⟩
end Go.Proofs.YteijccjdejjbjaaDoor
namespace Go.Proofs.YteijccjdejjbjaaDoor
open Go.RowKit Go.Shelf ScalarNum

theorem neg_mul (x : Nat) : x * (L - 1) % L = sneg x := by
  unfold sneg
  have h := modL_lt x
  have h1 : (x * (L - 1) + x) % L = 0 := by
    rw [show x * (L - 1) + x = x * L from by rw [← Nat.mul_succ]; congr 1, Nat.mul_mod_left]
  have h2 : (x * (L - 1) % L + x % L) % L = 0 := by rw [← Nat.add_mod]; exact h1
  have h3 := modL_lt (x * (L - 1))
  generalize x * (L - 1) % L = y at *
  generalize x % L = z at *
  have h4 : y + z < L + L := by omega
  by_cases h5 : y + z < L
  · rw [Nat.mod_eq_of_lt h5] at h2
    have : z = 0 := by omega
    rw [this, Nat.sub_zero, Nat.mod_self]; omega
  · rw [Nat.mod_eq_sub_mod (by omega), Nat.mod_eq_of_lt (by omega)] at h2
    have e : L - z = y := by omega
    rw [e, Nat.mod_eq_of_lt h3]
theorem order_less : st 256 L 0 236 = L - 1 := by decide
theorem L1_lt : L - 1 < M := by decide

set_option maxRecDepth 100000 in
set_option maxHeartbeats 1000000 in
theorem refNeg_num (x : Nat) (hx : x < M) (w : World) (hO : w.rangeAt 1 0 (yl 32 L)) : Calls Tryd.prog 31 #[yv 32 x] w fun e w' => e = .returned (yv 32 (sneg x)) ∧ Grown w w' := by
  have h0 := alloc2 w 23 23 (yl 32 x) (yl 32 0).toArray
  rw [show (yl 32 0).toArray.size = 32 from rfl] at h0
  have hsz : ((w.alloc (.cells (yl 32 x).toArray 23)).alloc (.cells (yl 32 0).toArray 23)).heap.size = w.heap.size + 1 + 1 := by simp
  have HO := Hid.of hO
  clear hO
  rw [yv]
  go_enter Tryd.func31, Tryd.ntmps31
  go_wp2_with (with_reducible show wpList _ _ _ ({ dst := _, op := Op.load 23 _, type := _, pos := _, after := _, guard := _ } :: _) _ _; refine Shut.out ?_)
  show wpList _ _ _ _ _ _
  rw [← yl32_zero]
  generalize ((w.alloc (.cells (yl 32 x).toArray 23)).alloc (.cells (yl 32 0).toArray 23)) = W0 at *
  have H0 := Hid.of h0
  clear h0
  refine wpList_load32 rfl _ rfl 1 rfl L (rangeAt_grown HO.out H0.out.2.2.2) ?_
  simp only [Act.put, List.setIfInBounds_toArray, List.set_cons_zero, List.set_cons_succ]
  go_wp2_with (with_reducible show wpList _ _ _ ({ dst := _, op := Op.store 23 _ _, type := _, pos := _, after := _, guard := _ } :: _) _ _; refine Shut.out ?_)
  show wpList _ _ _ _ _ _
  refine wpList_store_new L (by simp) rfl rfl (by rw [hsz]; rfl) rfl (fun w2 hg2 hr2 ht2 => ?_)
  simp only [Act.put]
  apply wpList_nil
  rw [hsz] at hr2 ht2
  have d1 : w2.cell? ⟨w.heap.size + 1 + 1, 0, none⟩ = some (.int .u8 237) := hr2 0 _ (yl_get 32 L 0 (by decide))
  have d2 : w2.frozen? ⟨w.heap.size + 1 + 1, 0, none⟩ = false := (ht2 0 (by decide)).2
  have H1 := Hid.of (show (w2.setCell ⟨w.heap.size + 1 + 1, 0, none⟩ (.int .u8 236)).rangeAt w.heap.size 0 (yl 32 x) ∧ (w2.setCell ⟨w.heap.size + 1 + 1, 0, none⟩ (.int .u8 236)).rangeAt (w.heap.size + 1 + 1) 0 (yl 32 (L - 1)) ∧ (w2.setCell ⟨w.heap.size + 1 + 1, 0, none⟩ (.int .u8 236)).there (w.heap.size + 1) 0 32 ∧ Grown w (w2.setCell ⟨w.heap.size + 1 + 1, 0, none⟩ (.int .u8 236)) from by
    refine ⟨range_put (rangeAt_grown H0.out.1 hg2) _ _ (by omega) _, ?_, there_setCell (there_grown H0.out.2.2.1 hg2) _ _, Grown.setCell (grown_trans H0.out.2.2.2 hg2) (by show _ ≤ w.heap.size + 1 + 1; omega) _⟩
    rw [← order_less]
    exact yrange_set (z := 236) hr2 (by decide) (by decide))
  clear H0 hg2 hr2 ht2
  go_wp2
  generalize (w2.setCell ⟨w.heap.size + 1 + 1, 0, none⟩ (.int .u8 236)) = W3 at *
  refine wp_region_noPanic ?_
  refine wp_region_held_drew (S := fun w' => w'.rangeAt w.heap.size 0 (yl 32 x) ∧ w'.rangeAt (w.heap.size + 1 + 1) 0 (yl 32 (L - 1)) ∧ w'.there (w.heap.size + 1) 0 32 ∧ Grown w w') (by kernel_rfl) H1.out (fun hH => ?_)
  clear H1
  refine take32 0 (x) (w.heap.size) rfl (by kernel_rfl) (by kernel_rfl) (by kernel_rfl) (fun _ _ _ h => h) (by rfl) rfl rfl (fun _ h => h.1) hH ?_
  simp only [Act.put, List.setIfInBounds_toArray, List.set_cons_zero, List.set_cons_succ]
  refine take32 2 (L - 1) (w.heap.size + 1 + 1) rfl (by kernel_rfl) (by kernel_rfl) (by kernel_rfl) (fun _ _ _ h => h) (by rfl) rfl rfl (fun _ h => h.2.1) hH ?_
  simp only [Act.put, List.setIfInBounds_toArray, List.set_cons_zero, List.set_cons_succ]
  refine step1 1 (by kernel_rfl) rfl (fun K hK => ?_)
  go_simp
  refine Calls.mono (list_num x _) ?_
  rintro e w1 ⟨⟨v1, rfl, hs1⟩, hg1⟩
  dsimp only
  refine hK.out _ _ (keep3b hH hg1) (fun hH => ?_)
  clear hK K
  refine step1 3 (by kernel_rfl) rfl (fun K hK => ?_)
  go_simp
  refine Calls.mono (list_num (L - 1) _) ?_
  rintro e w2 ⟨⟨v2, rfl, hs2⟩, hg2⟩
  dsimp only
  refine hK.out _ _ (keep3b hH hg2) (fun hH => ?_)
  clear hK K
  obtain ⟨g1, c1, rfl, r1⟩ := hs1.grown hg2
  obtain ⟨g2, c2, rfl, r2⟩ := hs2
  clear hs1
  refine step1 4 (by kernel_rfl) rfl (fun K hK => ?_)
  go_simp
  refine Calls.mono (product_num g1 c1 x g2 c2 (L - 1) hx L1_lt _ r1 r2) ?_
  rintro e w3 ⟨⟨v3, rfl, hs3⟩, hg3⟩
  dsimp only
  refine hK.out _ _ (keep3b hH hg3) (fun hH => ?_)
  clear hK K
  obtain ⟨g3, c3, rfl, r3⟩ := hs3
  refine step1 5 (by kernel_rfl) rfl (fun K hK => ?_)
  go_simp
  refine Calls.mono (rest_num g3 64 (x * (L - 1)) c3 (by decide) (mul_lt64 hx L1_lt) _ r3 (rangeAt_grown HO.out hH.2.2.2)) ?_
  rintro e w4 ⟨rfl, hg4⟩
  dsimp only
  refine hK.out _ _ (keep3b hH hg4) (fun hH => ?_)
  clear hK K
  obtain ⟨hr1, hr2, hth, hgw⟩ := hH
  rw [neg_mul x]
  refine step1 6 (by kernel_rfl) rfl (fun K hK => ?_)
  refine store32 (sneg x) (w.heap.size + 1) rfl (by rfl) rfl rfl hth ?_
  simp only [Act.put]
  refine hK.out _ _ ⟨World.rangeAt_setCells_apart hr1 _ _ _ (by left; omega), World.rangeAt_setCells_apart hr2 _ _ _ (by left; omega), World.there_setCells hth _ _ _, grown_setCells (by omega) _ _ hgw⟩ (fun _ => ?_)
  clear hK K
  refine wpAnyH_done (by kernel_rfl) ?_ _
  refine NoPanic.normal ?_
  repeat go_step
  refine bodyPost_ret (v := yv 32 (sneg x)) (result32 Tryd.results31 _ _ (w.heap.size + 1) _ ?hp (World.rangeAt_setCells_same _ _ _ _ (by rw [yl_length]; exact hth))) ?hd ?_
  case hp => rfl
  case hd => rfl
  exact ⟨rfl, grown_setCells (by omega) _ _ hgw⟩
end Go.Proofs.YteijccjdejjbjaaDoor
namespace Go.Proofs.YteijccjdejjbjaaDoor
open Go.RowKit Go.Shelf ScalarNum

theorem and248 : ∀ d : Nat, d < 256 → bits .and .u8 (d : Int) 248 = ((d / 8 * 8 : Nat) : Int) := by decide +kernel
theorem and63 : ∀ d : Nat, d < 256 → bits .and .u8 (d : Int) 63 = ((d % 64 : Nat) : Int) := by decide +kernel
theorem or64 : ∀ d : Nat, d < 64 → bits .or .u8 (d : Int) 64 = ((d + 64 : Nat) : Int) := by decide +kernel

/-- what Clamp answers -/
def cl (x : Nat) : Nat := st 256 (st 256 x 0 (dg 256 x 0 / 8 * 8)) 31 (dg 256 x 31 % 64 + 64)
theorem cl_lt {x : Nat} (hx : x < M) : cl x < M := by
  have e : M = 256 ^ 32 := by decide
  rw [e] at hx ⊢
  have h0 : dg 256 x 0 < 256 := dg_lt (by decide)
  have h1 : dg 256 x 31 % 64 < 64 := Nat.mod_lt _ (by decide)
  exact st_lt (by decide) (by omega) (by decide) (st_lt (by decide) (by omega) (by decide) hx)
theorem cl_0 (x : Nat) : dg 256 (cl x) 0 = dg 256 x 0 / 8 * 8 := by
  have h0 : dg 256 x 0 < 256 := dg_lt (by decide)
  have h1 : dg 256 x 31 % 64 < 64 := Nat.mod_lt _ (by decide)
  unfold cl
  rw [st_other (by decide) (by omega) (by decide), st_same (by decide) (by omega)]
theorem cl_31 (x : Nat) : dg 256 (cl x) 31 = dg 256 x 31 % 64 + 64 := by
  have h1 : dg 256 x 31 % 64 < 64 := Nat.mod_lt _ (by decide)
  unfold cl
  rw [st_same (by decide) (by omega)]
theorem cl_mid (x i : Nat) (h0 : i ≠ 0) (h1 : i ≠ 31) : dg 256 (cl x) i = dg 256 x i := by
  have q0 : dg 256 x 0 < 256 := dg_lt (by decide)
  have q1 : dg 256 x 31 % 64 < 64 := Nat.mod_lt _ (by decide)
  unfold cl
  rw [st_other (by decide) (by omega) h1, st_other (by decide) (by omega) h0]
theorem cl_cl (x : Nat) (hx : x < M) : cl (cl x) = cl x := by
  have e : M = 256 ^ 32 := by decide
  have h : ∀ i, i < 32 → dg 256 (cl (cl x)) i = dg 256 (cl x) i := by
    intro i _
    by_cases h0 : i = 0
    · subst h0; rw [cl_0, cl_0]; omega
    · by_cases h1 : i = 31
      · subst h1; rw [cl_31, cl_31]; omega
      · rw [cl_mid _ _ h0 h1]
  have := ds_inj h
  rw [← e, Nat.mod_eq_of_lt (cl_lt (cl_lt hx)), Nat.mod_eq_of_lt (cl_lt hx)] at this
  exact this

set_option maxRecDepth 100000 in
set_option maxHeartbeats 1000000 in
theorem Clamp_num (x : Nat) (w : World) : Calls Tryd.prog 56 #[yv 32 x] w fun e w' => e = .returned (yv 32 (cl x)) ∧ Grown w w' := by
  have h0 := alloc2 w 23 23 (yl 32 x) (yl 32 0).toArray
  rw [show (yl 32 0).toArray.size = 32 from rfl, yl_length] at h0
  rw [yv]
  go_enter Tryd.func56, Tryd.ntmps56
  go_upto_region 1 with (fail)
  rw [← yl32_zero]
  generalize ((w.alloc (.cells (yl 32 x).toArray 23)).alloc (.cells (yl 32 0).toArray 23)) = W0 at *
  obtain ⟨r0, t0, t1, g0⟩ := h0
  have d0 : W0.cell? ⟨w.heap.size, 0, none⟩ = some (.int .u8 (dg 256 x 0 : Nat)) := r0 0 _ (yl_get 32 x 0 (by decide))
  have d1 : W0.cell? ⟨w.heap.size, 31, none⟩ = some (.int .u8 (dg 256 x 31 : Nat)) := r0 31 _ (yl_get 32 x 31 (by decide))
  have f0 : W0.frozen? ⟨w.heap.size, 0, none⟩ = false := (t0 0 (by decide)).2
  have f1 : W0.frozen? ⟨w.heap.size, 31, none⟩ = false := (t0 31 (by decide)).2
  have q0 : dg 256 x 0 < 256 := dg_lt (by decide)
  have q1 : dg 256 x 31 < 256 := dg_lt (by decide)
  have e0 := and248 _ q0
  have e1 := and63 _ q1
  have e2 := or64 (dg 256 x 31 % 64) (Nat.mod_lt _ (by decide))
  have z0 : dg 256 x 0 / 8 * 8 < 256 := by omega
  have z1 : dg 256 x 31 % 64 + 64 < 256 := by omega
  have hr : ((W0.setCell ⟨w.heap.size, 0, none⟩ (.int .u8 ((dg 256 x 0 / 8 * 8 : Nat) : Int))).setCell ⟨w.heap.size, 31, none⟩ (.int .u8 ((dg 256 x 31 % 64 + 64 : Nat) : Int))).rangeAt w.heap.size 0 (yl 32 (cl x)) := yrange_set (yrange_set r0 z0 (by decide)) z1 (by decide)
  have HR := Hid.of (And.intro hr (And.intro (there_setCell (there_setCell t1 ⟨w.heap.size, 0, none⟩ (.int .u8 ((dg 256 x 0 / 8 * 8 : Nat) : Int))) ⟨w.heap.size, 31, none⟩ (.int .u8 ((dg 256 x 31 % 64 + 64 : Nat) : Int))) (Grown.setCell (Grown.setCell g0 (a := ⟨w.heap.size, 0, none⟩) (Nat.le_refl _) (.int .u8 ((dg 256 x 0 / 8 * 8 : Nat) : Int))) (a := ⟨w.heap.size, 31, none⟩) (Nat.le_refl _) (.int .u8 ((dg 256 x 31 % 64 + 64 : Nat) : Int)))))
  clear hr r0 t0 t1 g0
  generalize dg 256 x 31 % 64 + 64 = y1 at *
  generalize dg 256 x 31 % 64 = y2 at *
  generalize dg 256 x 0 / 8 * 8 = y0 at *
  generalize dg 256 x 0 = x0 at *
  generalize dg 256 x 31 = x1 at *
  clear q0 q1 z0 z1
  go_wp2_with (with_reducible show wpList _ _ _ ({ dst := _, op := Op.load 23 _, type := _, pos := _, after := _, guard := _ } :: _) _ _; refine Shut.out ?_)
  show wpList _ _ _ _ _ _
  generalize ((W0.setCell ⟨w.heap.size, 0, none⟩ (.int .u8 (y0 : Int))).setCell ⟨w.heap.size, 31, none⟩ (.int .u8 (y1 : Int))) = W2 at *
  go_wp2_with (with_reducible show wpList _ _ _ ({ dst := _, op := Op.load 23 _, type := _, pos := _, after := _, guard := _ } :: _) _ _; refine Shut.out ?_)
  show wpList _ _ _ _ _ _
  refine wpList_load32 rfl _ rfl (w.heap.size) rfl (cl x) (HR.out.1) ?_
  simp only [Act.put, List.setIfInBounds_toArray, List.set_cons_zero, List.set_cons_succ]
  refine wpList_store32 rfl _ _ rfl (w.heap.size + 1) (cl x) rfl rfl (HR.out.2.1) ?_
  simp only [Act.put]
  apply wpList_nil
  repeat go_step
  refine bodyPost_ret (v := yv 32 (cl x)) (result32 Tryd.results56 _ _ (w.heap.size + 1) _ ?hp (World.rangeAt_setCells_same _ _ _ _ (by rw [yl_length]; exact HR.out.2.1))) ?hd ?_
  case hp => rfl
  case hd => rfl
  exact ⟨rfl, grown_setCells (by omega) _ _ (HR.out.2.2)⟩
end Go.Proofs.YteijccjdejjbjaaDoor
namespace Go.Proofs.YteijccjdejjbjaaDoor
open Go.RowKit Go.Shelf ScalarNum

set_option maxRecDepth 100000 in
set_option maxHeartbeats 1000000 in
theorem refOrder_num (w : World) (hO : w.rangeAt 1 0 (yl 32 L)) : Calls Tryd.prog 37 #[] w fun e w' => e = .returned (yv 32 L) ∧ Grown w w' := by
  have h0 := alloc1 w 23 (yl 32 0).toArray
  rw [show (yl 32 0).toArray.size = 32 from rfl] at h0
  have HO := Hid.of hO
  clear hO
  go_enter Tryd.func37, Tryd.ntmps37
  go_wp2_with (with_reducible show wpList _ _ _ ({ dst := _, op := Op.load 23 _, type := _, pos := _, after := _, guard := _ } :: _) _ _; refine Shut.out ?_)
  show wpList _ _ _ _ _ _
  rw [← yl32_zero]
  generalize (w.alloc (.cells (yl 32 0).toArray 23)) = W0 at *
  have H0 := Hid.of h0
  clear h0
  refine wpList_load32 rfl _ rfl 1 (by first | rfl | go_simp) L (rangeAt_grown HO.out H0.out.2) ?_
  simp only [Act.put, List.setIfInBounds_toArray, List.set_cons_zero, List.set_cons_succ]
  go_wp2_with (with_reducible show wpList _ _ _ ({ dst := _, op := Op.store 23 _ _, type := _, pos := _, after := _, guard := _ } :: _) _ _; refine Shut.out ?_)
  show wpList _ _ _ _ _ _
  refine wpList_store32 rfl _ _ rfl (w.heap.size) (L) rfl rfl (H0.out.1) ?_
  simp only [Act.put]
  apply wpList_nil
  repeat go_step
  refine bodyPost_ret (v := yv 32 (L)) (result32 Tryd.results37 _ _ (w.heap.size) _ ?hp (World.rangeAt_setCells_same _ _ _ _ (by rw [yl_length]; exact H0.out.1))) ?hd ?_
  case hp => rfl
  case hd => rfl
  exact ⟨rfl, grown_setCells (by omega) _ _ (H0.out.2)⟩

set_option maxRecDepth 100000 in
set_option maxHeartbeats 1000000 in
theorem refCanonical_num (x : Nat) (hx : x < M) (w : World) (hO : w.rangeAt 1 0 (yl 32 L)) : Calls Tryd.prog 54 #[yv 32 x] w fun e w' => e = .returned (.bool (decide (x < L))) ∧ Grown w w' := by
  have h0 : (w.alloc (.cells (yl 32 x).toArray 23)).rangeAt w.heap.size 0 (yl 32 x) ∧ Grown w (w.alloc (.cells (yl 32 x).toArray 23)) := ⟨rangeAt_alloc_new w 23 (yl 32 x), Grown.alloc (Grown.refl _) _ _⟩
  have HO := Hid.of hO
  clear hO
  have ed : decide (x % L = x) = decide (x < L) := by
    apply decide_eq_decide.2
    constructor
    · intro h; rw [← h]; exact modL_lt x
    · intro h; exact Nat.mod_eq_of_lt h
  have HE := Hid.of ed
  clear ed
  rw [yv]
  go_enter Tryd.func54, Tryd.ntmps54
  go_wp2_with (with_reducible show wpList _ _ _ ({ dst := _, op := Op.load 23 _, type := _, pos := _, after := _, guard := _ } :: _) _ _; refine Shut.out ?_)
  show wpList _ _ _ _ _ _
  generalize (w.alloc (.cells (yl 32 x).toArray 23)) = W0 at *
  have H0 := Hid.of h0
  clear h0
  refine wpList_load32 rfl _ rfl w.heap.size rfl x H0.out.1 ?_
  simp only [Act.put, List.setIfInBounds_toArray, List.set_cons_zero, List.set_cons_succ]
  go_wp2_with fail
  refine Calls.mono (list_num x _) ?_
  rintro e w1 ⟨⟨v1, rfl, hs1⟩, g1⟩
  obtain ⟨g1', c1, rfl, r1⟩ := hs1
  dsimp only
  have H1 := Hid.of (And.intro (rangeAt_grown H0.out.1 g1) (And.intro r1 (grown_trans H0.out.2 g1)))
  clear H0 g1 r1
  go_wp2_with fail
  refine Calls.mono (rest_num g1' 32 x c1 (by decide) (by rw [← M_pow]; exact hx) _ H1.out.2.1 (rangeAt_grown HO.out H1.out.2.2)) ?_
  rintro e w2 ⟨rfl, g2⟩
  dsimp only
  have H2 := Hid.of (And.intro (rangeAt_grown H1.out.1 g2) (grown_trans H1.out.2.2 g2))
  clear H1 g2
  go_wp2_with (with_reducible show wpList _ _ _ ({ dst := _, op := Op.store 23 _ _, type := _, pos := _, after := _, guard := _ } :: _) _ _; refine Shut.out ?_)
  show wpList _ _ _ _ _ _
  refine wpList_store_new (x % L) (by simp) rfl rfl rfl rfl (fun w3 hg3 hr3 _ => ?_)
  simp only [Act.put]
  have H3 := Hid.of (And.intro (rangeAt_grown H2.out.1 hg3) (And.intro hr3 (grown_trans H2.out.2 hg3)))
  clear H2 hg3 hr3
  generalize w2.heap.size = b3 at *
  apply wpList_nil
  go_wp2_with (with_reducible show wpList _ _ _ ({ dst := _, op := Op.load 23 _, type := _, pos := _, after := _, guard := _ } :: _) _ _; refine Shut.out ?_)
  show wpList _ _ _ _ _ _
  refine wpList_load32 rfl _ rfl b3 rfl (x % L) H3.out.2.1 ?_
  simp only [Act.put, List.setIfInBounds_toArray, List.set_cons_zero, List.set_cons_succ]
  refine wpList_load32 rfl _ rfl w.heap.size rfl x H3.out.1 ?_
  simp only [Act.put, List.setIfInBounds_toArray, List.set_cons_zero, List.set_cons_succ]
  refine wpList_val (.bool (decide (x % L = x))) rfl (exec_eql32 rfl (x % L) x rfl rfl (modL_ltM x) hx _) ?_
  simp only [Act.put, List.setIfInBounds_toArray, List.set_cons_zero, List.set_cons_succ]
  rw [HE.out]
  go_wp2
  go_ret
  exact ⟨rfl, H3.out.2.2⟩

theorem div8_u8 (q : Nat) (h : q < 256) : IntKind.u8.wrap ((q : Int).tdiv 8) = ((q / 8 : Nat) : Int) ∧ (q : Int).tdiv 8 = ((q / 8 : Nat) : Int) := by
  rw [Int.tdiv_eq_ediv_of_nonneg (by omega), IntKind.wrap_u8]; omega
theorem mod64_u8 (q : Nat) : (q : Int).tmod 64 = ((q % 64 : Nat) : Int) := by rw [Int.tmod_eq_emod_of_nonneg (by omega)]; omega
set_option maxRecDepth 100000 in
set_option maxHeartbeats 1000000 in
theorem refClamp_num (x : Nat) (w : World) : Calls Tryd.prog 57 #[yv 32 x] w fun e w' => e = .returned (yv 32 (cl x)) ∧ Grown w w' := by
  have h0 := alloc2 w 23 23 (yl 32 x) (yl 32 0).toArray
  rw [show (yl 32 0).toArray.size = 32 from rfl] at h0
  rw [yv]
  go_enter Tryd.func57, Tryd.ntmps57
  go_wp2_with (with_reducible show wpList _ _ _ ({ dst := _, op := Op.load 23 _, type := _, pos := _, after := _, guard := _ } :: _) _ _; refine Shut.out ?_)
  show wpList _ _ _ _ _ _
  rw [← yl32_zero]
  generalize ((w.alloc (.cells (yl 32 x).toArray 23)).alloc (.cells (yl 32 0).toArray 23)) = W0 at *
  have H0 := Hid.of h0
  clear h0
  refine wpList_load32 rfl _ rfl w.heap.size rfl x H0.out.1 ?_
  simp only [Act.put, List.setIfInBounds_toArray, List.set_cons_zero, List.set_cons_succ]
  go_wp2_with (with_reducible show wpList _ _ _ ({ dst := _, op := Op.store 23 _ _, type := _, pos := _, after := _, guard := _ } :: _) _ _; refine Shut.out ?_)
  show wpList _ _ _ _ _ _
  refine wpList_store_new x (by simp) rfl rfl rfl rfl (fun W1 hg1 hr1 ht1 => ?_)
  simp only [Act.put]
  have r0 := rangeAt_grown H0.out.1 hg1
  have hb : w.heap.size < W0.heap.size := range_lt H0.out.1 (by rw [yl_length]; decide)
  have H1 := Hid.of (And.intro (there_grown H0.out.2.2.1 hg1) (grown_trans H0.out.2.2.2 hg1))
  have hb1 : W0.heap.size ≠ w.heap.size + 1 := by
    intro e
    have := there_lt H0.out.2.2.1 (by decide)
    omega
  clear H0 hg1
  generalize W0.heap.size = b3 at *
  apply wpList_nil
  have d0 : W1.cell? ⟨w.heap.size, 0, none⟩ = some (.int .u8 (dg 256 x 0 : Nat)) := r0 0 _ (yl_get 32 x 0 (by decide))
  have d1 : W1.cell? ⟨w.heap.size, 31, none⟩ = some (.int .u8 (dg 256 x 31 : Nat)) := r0 31 _ (yl_get 32 x 31 (by decide))
  have d2 : W1.cell? ⟨b3, 0, none⟩ = some (.int .u8 (dg 256 x 0 : Nat)) := hr1 0 _ (yl_get 32 x 0 (by decide))
  have d3 : W1.cell? ⟨b3, 31, none⟩ = some (.int .u8 (dg 256 x 31 : Nat)) := hr1 31 _ (yl_get 32 x 31 (by decide))
  have f0 : W1.frozen? ⟨b3, 0, none⟩ = false := (ht1 0 (by decide)).2
  have f1 : W1.frozen? ⟨b3, 31, none⟩ = false := (ht1 31 (by decide)).2
  have q0 : dg 256 x 0 < 256 := dg_lt (by decide)
  have q1 : dg 256 x 31 < 256 := dg_lt (by decide)
  have z0 : dg 256 x 0 / 8 * 8 < 256 := by omega
  have z1 : dg 256 x 31 % 64 + 64 < 256 := by omega
  have hr : ((W1.setCell ⟨b3, 0, none⟩ (.int .u8 ((dg 256 x 0 / 8 * 8 : Nat) : Int))).setCell ⟨b3, 31, none⟩ (.int .u8 ((dg 256 x 31 % 64 + 64 : Nat) : Int))).rangeAt b3 0 (yl 32 (cl x)) := yrange_set (yrange_set hr1 z0 (by decide)) z1 (by decide)
  have HR := Hid.of (And.intro hr (And.intro (there_setCell (there_setCell H1.out.1 ⟨b3, 0, none⟩ (.int .u8 ((dg 256 x 0 / 8 * 8 : Nat) : Int))) ⟨b3, 31, none⟩ (.int .u8 ((dg 256 x 31 % 64 + 64 : Nat) : Int))) (Grown.setCell (Grown.setCell H1.out.2 (a := ⟨b3, 0, none⟩) (Nat.le_of_lt hb) (.int .u8 ((dg 256 x 0 / 8 * 8 : Nat) : Int))) (a := ⟨b3, 31, none⟩) (Nat.le_of_lt hb) (.int .u8 ((dg 256 x 31 % 64 + 64 : Nat) : Int)))))
  have e0 := (div8_u8 _ q0).2
  have e1 := mod64_u8 (dg 256 x 31)
  have e2 : ((dg 256 x 0 / 8 : Nat) : Int) * 8 = ((dg 256 x 0 / 8 * 8 : Nat) : Int) := by omega
  have e3 : ((dg 256 x 31 % 64 : Nat) : Int) + 64 = ((dg 256 x 31 % 64 + 64 : Nat) : Int) := by omega
  have hne : w.heap.size ≠ b3 := by omega
  clear hr r0 hr1 ht1 H1
  generalize dg 256 x 31 % 64 + 64 = y1 at *
  generalize dg 256 x 31 % 64 = y2 at *
  generalize dg 256 x 0 / 8 * 8 = y0 at *
  generalize dg 256 x 0 / 8 = y3 at *
  generalize dg 256 x 0 = x0 at *
  generalize dg 256 x 31 = x1 at *
  go_wp2_with (with_reducible show wpList _ _ _ ({ dst := _, op := Op.load 23 _, type := _, pos := _, after := _, guard := _ } :: _) _ _; refine Shut.out ?_)
  show wpList _ _ _ _ _ _
  generalize ((W1.setCell ⟨b3, 0, none⟩ (.int .u8 (y0 : Int))).setCell ⟨b3, 31, none⟩ (.int .u8 (y1 : Int))) = W2 at *
  go_wp2_with (with_reducible show wpList _ _ _ ({ dst := _, op := Op.load 23 _, type := _, pos := _, after := _, guard := _ } :: _) _ _; refine Shut.out ?_)
  show wpList _ _ _ _ _ _
  refine wpList_load32 rfl _ rfl (b3) rfl (cl x) (HR.out.1) ?_
  simp only [Act.put, List.setIfInBounds_toArray, List.set_cons_zero, List.set_cons_succ]
  refine wpList_store32 rfl _ _ rfl (w.heap.size + 1) (cl x) rfl rfl (HR.out.2.1) ?_
  simp only [Act.put]
  apply wpList_nil
  repeat go_step
  refine bodyPost_ret (v := yv 32 (cl x)) (result32 Tryd.results57 _ _ (w.heap.size + 1) _ ?hp (World.rangeAt_setCells_same _ _ _ _ (by rw [yl_length]; exact HR.out.2.1))) ?hd ?_
  case hp => rfl
  case hd => rfl
  exact ⟨rfl, grown_setCells (by omega) _ _ (HR.out.2.2)⟩
end Go.Proofs.YteijccjdejjbjaaDoor
