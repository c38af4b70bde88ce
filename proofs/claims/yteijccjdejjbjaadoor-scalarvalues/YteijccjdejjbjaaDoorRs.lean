import Derived.Test.YteijccjdejjbjaaDoorRf
import Derived.Test.YteijccjdejjbjaaDoorRb
namespace Go.Proofs.YteijccjdejjbjaaDoor
open Go.RowKit Go.Shelf ScalarNum

theorem il33_zero : (il 33 0).toArray = #[.int .i64 0, .int .i64 0, .int .i64 0, .int .i64 0, .int .i64 0, .int .i64 0, .int .i64 0, .int .i64 0, .int .i64 0, .int .i64 0, .int .i64 0, .int .i64 0, .int .i64 0, .int .i64 0, .int .i64 0, .int .i64 0, .int .i64 0, .int .i64 0, .int .i64 0, .int .i64 0, .int .i64 0, .int .i64 0, .int .i64 0, .int .i64 0, .int .i64 0, .int .i64 0, .int .i64 0, .int .i64 0, .int .i64 0, .int .i64 0, .int .i64 0, .int .i64 0, .int .i64 0] := by rfl

theorem w64s (q : Nat) (h : q < 256) : wrap64 (q : Int) = (q : Int) := by unfold wrap64; omega
theorem tmods (q : Nat) : (q : Int).tmod 256 = ((q % 256 : Nat) : Int) := by rw [Int.tmod_eq_emod_of_nonneg (by omega)]; omega
theorem tmod2 (q : Nat) : (q : Int).tmod 2 = ((q % 2 : Nat) : Int) := by rw [Int.tmod_eq_emod_of_nonneg (by omega)]; omega
theorem tdivs (q : Nat) : (q : Int).tdiv 256 = ((q / 256 : Nat) : Int) := by rw [Int.tdiv_eq_ediv_of_nonneg (by omega)]; omega
theorem dblb (wd c : Nat) (hw : wd < 256) (hc : c ≤ 1) : 2 * (wd : Int) + (c : Int) = ((2 * wd + c : Nat) : Int) ∧ 2 * wd + c < 512 ∧ (2 * wd + c) / 256 ≤ 1 := by omega

theorem dbl_end {cur c R bit : Nat} (h : cur + c * 256 ^ 33 = R + R % 256 ^ 33 + bit) (hR : R < L) (hR33 : R < 256 ^ 33) (hb : bit < 2) (hc : cur < 256 ^ 33) : cur = 2 * R + bit ∧ 2 * R + bit < 2 * L := by
  rw [Nat.mod_eq_of_lt hR33] at h
  have hL : 2 * L < 256 ^ 33 := by decide
  rcases c with _ | c
  · omega
  · exfalso
    have : 256 ^ 33 ≤ (c + 1) * 256 ^ 33 := Nat.le_mul_of_pos_left _ (by omega)
    omega

theorem sub_end {cur c X : Nat} (h : cur + L % 256 ^ 33 = X + c * 256 ^ 33) (h1 : L ≤ X) (h2 : X < 2 * L) (hc : cur < 256 ^ 33) : cur = X % L := by
  rw [Nat.mod_eq_of_lt (show L < 256 ^ 33 by decide)] at h
  have h3 : X % L = X - L := by
    rw [Nat.mod_eq_sub_mod h1, Nat.mod_eq_of_lt (by omega)]
  have hL : 2 * L < 256 ^ 33 := by decide
  rw [h3]
  rcases c with _ | c
  · omega
  · exfalso
    have : 256 ^ 33 ≤ (c + 1) * 256 ^ 33 := Nat.le_mul_of_pos_left _ (by omega)
    omega
theorem sub_neg {wd ld c : Nat} (h : wd < ld + c) (hw : wd < 256) (hl : ld < 256) (hc : c ≤ 1) : (wd : Int) - (c : Int) - (ld : Int) < 0 ∧ (wd : Int) - (c : Int) - (ld : Int) + 256 = ((wd + 256 - (ld + c) : Nat) : Int) ∧ wd + 256 - (ld + c) < 256 ∧ (wd + 256 - (ld + c)) + (ld + c) = wd + 1 * 256 := by omega
theorem sub_pos {wd ld c : Nat} (h : ¬ wd < ld + c) (hw : wd < 256) (hl : ld < 256) (hc : c ≤ 1) : ¬ (wd : Int) - (c : Int) - (ld : Int) < 0 ∧ (wd : Int) - (c : Int) - (ld : Int) = ((wd - (ld + c) : Nat) : Int) ∧ wd - (ld + c) < 256 ∧ (wd - (ld + c)) + (ld + c) = wd + 0 * 256 := by omega

/-- what the variables of rest hold -/
structure RX (w0 : World) (R : Nat) (wr : World) : Prop where
  t0 : wr.there w0.heap.size 0 32
  rr : wr.rangeAt (w0.heap.size + 1) 0 (il 33 R)
  tr : wr.there (w0.heap.size + 1) 0 33
  gw : Grown w0 wr
theorem RX.set {w0 wr : World} {R j z : Nat} (h : RX w0 R wr) (hz : z < 256) (hj : j < 33) : RX w0 (st 256 R j z) (wr.setCell ⟨w0.heap.size + 1, j, none⟩ (.int .i64 (z : Int))) :=
  ⟨there_setCell h.t0 _ _, irange_set h.rr hz hj, there_setCell h.tr _ _, Grown.setCell h.gw (by show _ ≤ w0.heap.size + 1; omega) _⟩
theorem RX.grown {w0 wr w' : World} {R : Nat} (h : RX w0 R wr) (hg : Grown wr w') : RX w0 R w' :=
  ⟨there_grown h.t0 hg, rangeAt_grown h.rr hg, there_grown h.tr hg, grown_trans h.gw hg⟩

theorem alloc2z (w : World) (t1 t2 : TypeId) (c1 : Array Value) (c2 : List Value) :
    ((w.alloc (.cells c1 t1)).alloc (.cells c2.toArray t2)).there w.heap.size 0 c1.size ∧
    ((w.alloc (.cells c1 t1)).alloc (.cells c2.toArray t2)).rangeAt (w.heap.size + 1) 0 c2 ∧
    ((w.alloc (.cells c1 t1)).alloc (.cells c2.toArray t2)).there (w.heap.size + 1) 0 c2.length ∧
    Grown w ((w.alloc (.cells c1 t1)).alloc (.cells c2.toArray t2)) := by
  have g1 : ∀ (w : World) (t : TypeId) (a : Array Value), Grown w (w.alloc (.cells a t)) := fun w t a => Grown.alloc (Grown.refl _) _ _
  have s1 : (w.alloc (.cells c1 t1)).heap.size = w.heap.size + 1 := by simp
  have b1 := there_alloc_new w t1 c1 c1.size (Nat.le_refl _)
  have gV1 := g1 w t1 c1
  generalize w.alloc (.cells c1 t1) = V1 at *
  have b2 := rangeAt_alloc_new V1 t2 c2
  have b3 := there_alloc_new V1 t2 c2.toArray c2.length (by simp)
  rw [s1] at b2 b3
  exact ⟨there_grown b1 (g1 _ _ _), b2, b3, grown_trans gV1 (g1 _ _ _)⟩

set_option maxRecDepth 100000 in
set_option maxHeartbeats 8000000 in
theorem rest_num (bs n v cap : Nat) (hn : n < 1099511627776) (hv : v < 256 ^ n) (w : World) (hb : w.rangeAt bs 0 (yl n v)) (hO : w.rangeAt 1 0 (yl 32 L)) :
    Calls Tryd.prog 42 #[.slice (some ⟨bs, 0, none⟩) n cap] w fun e w' => e = .returned (yv 32 (v % L)) ∧ Grown w w' := by
  have h0 := alloc2z w 23 79 (yl 32 0).toArray (il 33 0)
  rw [show (yl 32 0).toArray.size = 32 from rfl, show (il 33 0).length = 33 from rfl] at h0
  have HB := Hid.of hb
  have HO := Hid.of hO
  have HV := Hid.of hv
  clear hb hO hv
  have hni : (n : Int) < 1099511627776 := by omega
  go_enter Tryd.func42, Tryd.ntmps42
  go_wp2
  rw [← yl32_zero, ← il33_zero]
  generalize ((w.alloc (Obj.cells (yl 32 0).toArray 23)).alloc (Obj.cells (il 33 0).toArray 79)) = W0 at *
  have H0 := Hid.of (show RX w 0 W0 from ⟨h0.1, h0.2.1, h0.2.2.1, h0.2.2.2⟩)
  clear h0
  go_loopw [4] (fun v4 wr => ∃ k R : Nat, v4 = .int .i64 ((k : Int) - 1) ∧ k ≤ 8 * n ∧ R = v / 2 ^ k % L ∧ RX w R wr) (fun v4 _ => (intOf v4 + 1).toNat)
  case atStart =>
    refine ⟨8 * n, 0, ?_, Nat.le_refl _, ?_, H0.out⟩
    · simp
    · rw [show 2 ^ (8 * n) = 256 ^ n from by rw [Nat.pow_mul], Nat.div_eq_of_lt HV.out, Nat.zero_mod]
  case round =>
    obtain ⟨k, R, rfl, hk, hR, hX⟩ := hrel
    clear H0
    have HX := Hid.of hX
    have HR := Hid.of hR
    have hRL : R < L := by rw [hR]; exact modL_lt _
    clear hX hR
    rcases Nat.eq_zero_or_pos k with rfl | hpos
    · have eR : R = v % L := by rw [HR.out, Nat.pow_zero, Nat.div_one]
      have hRM : R < M := Nat.lt_trans hRL L_lt_M
      have HE := Hid.of eR
      have HRM := Hid.of hRM
      clear HR hRL hk eR hRM
      have h9 : (wr.alloc (Obj.cells (yl 32 0).toArray 23)).rangeAt wr.heap.size 0 (yl 32 0) ∧ (wr.alloc (Obj.cells (yl 32 0).toArray 23)).there wr.heap.size 0 32 ∧ Grown wr (wr.alloc (Obj.cells (yl 32 0).toArray 23)) :=
        ⟨rangeAt_alloc_new wr 23 (yl 32 0), there_alloc_new wr 23 (yl 32 0).toArray 32 (by rw [List.size_toArray, yl_length]; exact Nat.le_refl _), Grown.alloc (Grown.refl _) _ _⟩
      have hlo : w.heap.size + 1 < wr.heap.size := there_lt HX.out.tr (by decide)
      go_wp2
      rw [← yl32_zero]
      have H9 := Hid.of (show RX w R (wr.alloc (Obj.cells (yl 32 0).toArray 23)) ∧ (wr.alloc (Obj.cells (yl 32 0).toArray 23)).rangeAt wr.heap.size 0 (yl 32 (R % 256 ^ 0)) ∧ (wr.alloc (Obj.cells (yl 32 0).toArray 23)).there wr.heap.size 0 32 from ⟨HX.out.grown h9.2.2, by rw [Nat.pow_zero, Nat.mod_one]; exact h9.1, h9.2.1⟩)
      clear h9 HX
      generalize wr.heap.size = bo at *
      generalize wr.alloc (Obj.cells (yl 32 0).toArray 23) = W9 at *
      go_loopw [13] (fun v13 wr => ∃ j : Nat, v13 = .int .i64 (j : Int) ∧ j ≤ 32 ∧ RX w R wr ∧ wr.rangeAt bo 0 (yl 32 (R % 256 ^ j)) ∧ wr.there bo 0 32) (fun v13 _ => 32 - (intOf v13).toNat)
      case atStart => exact ⟨0, rfl, by decide, H9.out⟩
      case round =>
        obtain ⟨j, rfl, hj, hX, hro, hto⟩ := hrel
        clear H9
        by_cases hjt : j < 32
        · have d1 : wr.cell? ⟨w.heap.size + 1, j, none⟩ = some (.int .i64 (dg 256 R j : Nat)) := by
            have := hX.rr j _ (il_get 33 R j (by omega)); rwa [Nat.zero_add] at this
          have d2 : wr.frozen? ⟨bo, j, none⟩ = false := by
            have := (hto j hjt).2; rwa [Nat.zero_add] at this
          have d3 := hro j _ (yl_get 32 _ j hjt)
          rw [Nat.zero_add] at d3
          generalize (Value.int IntKind.u8 (dg 256 (R % 256 ^ j) j : Nat)) = u0 at d3
          have hl2 := by_step R j
          have hw : dg 256 R j < 256 := dg_lt (by decide)
          generalize dg 256 R j = wd at *
          have hwi : (wd : Int) < 256 := Int.ofNat_lt.2 hw
          have b2 : (j : Int) < 32 := Int.ofNat_lt.2 hjt
          have HY := Hid.of (And.intro hl2 (And.intro hX (And.intro hro hto)))
          clear hl2 hX hro hto
          go_wp2
          try rw [show ((wd : Int) % 256) = (wd : Int) from by omega]
          go_roundw
          case rel =>
            obtain ⟨hl2, hX, hro, hto⟩ := HY.out
            have r1 := yrange_set hro hw hjt
            rw [hl2] at r1
            exact ⟨j + 1, by go_num, by omega, ⟨there_setCell hX.t0 _ _, range_put hX.rr _ _ (by omega) _, there_setCell hX.tr _ _, Grown.setCell hX.gw (by show _ ≤ bo; omega) _⟩, r1, there_setCell hto _ _⟩
          case measure => simp [intOf]; omega
        · have hj3 : j = 32 := by omega
          subst hj3
          rw [show (256 : Nat) ^ 32 = M from by decide, Nat.mod_eq_of_lt HRM.out, HE.out] at hro
          have HY := Hid.of (And.intro hro (And.intro hX.t0 hX.gw))
          clear hro hX hto hj hjt
          go_wp2_with (with_reducible show wpList _ _ _ ({ dst := _, op := Op.load 23 _, type := _, pos := _, after := _, guard := _ } :: _) _ _; refine Shut.out ?_)
          show wpList _ _ _ _ _ _
          refine wpList_load32 rfl _ rfl (bo) rfl (v % L) (HY.out.1) ?_
          simp only [Act.put, List.setIfInBounds_toArray, List.set_cons_zero, List.set_cons_succ]
          refine wpList_store32 rfl _ _ rfl (w.heap.size) (v % L) rfl rfl (HY.out.2.1) ?_
          simp only [Act.put]
          apply wpList_nil
          repeat go_step
          refine bodyPost_ret (v := yv 32 (v % L)) (result32 Tryd.results42 _ _ (w.heap.size) _ ?hp (World.rangeAt_setCells_same _ _ _ _ (by rw [yl_length]; exact HY.out.2.1))) ?hd ?_
          case hp => rfl
          case hd => rfl
          exact ⟨rfl, grown_setCells (by omega) _ _ (HY.out.2.2)⟩
    · obtain ⟨i, rfl⟩ : ∃ i, k = i + 1 := ⟨k - 1, by omega⟩
      have ei : ((i + 1 : Nat) : Int) - 1 = (i : Int) := by omega
      rw [ei]
      clear ei
      have b1 : (i : Int) < 8 * (n : Int) := by omega
      have c1 : wr.cell? ⟨bs, i / 8, none⟩ = some (.int .u8 (dg 256 v (i / 8) : Nat)) := by
        have := rangeAt_grown HB.out HX.out.gw (i / 8) _ (yl_get n v (i / 8) (by omega)); rwa [Nat.zero_add] at this
      have hbb := bit_byte v i
      have hst := rest_step L v i
      have hd8 : dg 256 v (i / 8) < 256 := dg_lt (by decide)
      generalize dg 256 v (i / 8) = bt at *
      have hbit : v / 2 ^ i % 2 < 2 := Nat.mod_lt _ (by decide)
      have hq8 : bt / 2 ^ (i % 8) < 256 := Nat.lt_of_le_of_lt (Nat.div_le_self _ _) hd8
      have eq1 : (bt : Int) / 2 ^ (i % 8) = ((bt / 2 ^ (i % 8) : Nat) : Int) := by simp
      generalize bt / 2 ^ (i % 8) = q at *
      have eq2 := w64s q hq8
      have eq3 : (q : Int).tmod 2 = ((v / 2 ^ i % 2 : Nat) : Int) := by rw [← hbb]; exact tmod2 q
      rw [← HR.out] at hst
      have HST := Hid.of hst
      clear hbb hst HR hq8
      generalize v / 2 ^ i % 2 = bit at *
      go_wp2
      clear eq1 eq2 eq3 c1
      have hRM : R < 256 ^ 33 := Nat.lt_trans hRL (by decide)
      have HRL := Hid.of (And.intro hRL hRM)
      clear hRL hRM
      go_loopw [5, 6] (fun v5 v6 wr => ∃ j cur c : Nat, v6 = .int .i64 (j : Int) ∧ v5 = .int .i64 (c : Int) ∧ j ≤ 33 ∧ cur + c * 256 ^ j = R + R % 256 ^ j + bit ∧ cur / 256 ^ j = R / 256 ^ j ∧ c ≤ 1 ∧ cur < 256 ^ 33 ∧ RX w cur wr) (fun _ v6 _ => 33 - (intOf v6).toNat)
      case atStart => exact ⟨0, R, bit, rfl, rfl, by decide, by rw [Nat.pow_zero, Nat.mod_one, Nat.mul_one, Nat.add_zero], rfl, Nat.le_of_lt_succ hbit, HRL.out.2, HX.out⟩
      case round =>
        obtain ⟨j, cur, c, rfl, rfl, hj, he, hdv, hc, hcur, hX2⟩ := hrel
        clear HX
        by_cases hjt : j < 33
        · have d1 : wr.cell? ⟨w.heap.size + 1, j, none⟩ = some (.int .i64 (dg 256 cur j : Nat)) := by
            have := hX2.rr j _ (il_get 33 cur j hjt); rwa [Nat.zero_add] at this
          have d2 : wr.frozen? ⟨w.heap.size + 1, j, none⟩ = false := by
            have := (hX2.tr j hjt).2; rwa [Nat.zero_add] at this
          obtain ⟨s1, s2⟩ := dbl_step he hdv
          have hw : dg 256 cur j < 256 := dg_lt (by decide)
          have hst2 := st_lt (b := 256) (n := 33) (v := cur) (k := j) (z := (2 * dg 256 cur j + c) % 256) (by decide) (Nat.mod_lt _ (by decide)) hjt hcur
          generalize dg 256 cur j = wd at *
          obtain ⟨es, hs2, q3⟩ := dblb wd c hw hc
          generalize 2 * wd + c = s at *
          have q1 := tmods s
          have q2 := tdivs s
          have b2 : (j : Int) < 33 := Int.ofNat_lt.2 hjt
          have HY := Hid.of (And.intro s1 (And.intro s2 (And.intro q3 (And.intro hst2 hX2))))
          clear s1 s2 hst2 hX2 he hdv hcur
          go_wp2
          go_roundw
          case rel =>
            obtain ⟨s1, s2, q3, hst2, hX2⟩ := HY.out
            refine ⟨j + 1, st 256 cur j (s % 256), s / 256, by go_num, by simp, by omega, s1, s2, q3, hst2, ?_⟩
            have h := hX2.set (z := s % 256) (Nat.mod_lt _ (by decide)) hjt
            rw [show ((s % 256 : Nat) : Int) = (s : Int) % 256 from by simp] at h
            exact h
          case measure => simp [intOf]; omega
        · have hj3 : j = 33 := by omega
          subst hj3
          obtain ⟨ec, hXL2⟩ := dbl_end he HRL.out.1 HRL.out.2 hbit hcur
          subst ec
          have HX2 := Hid.of hX2
          have hX33 := Hid.of hcur
          clear hX2 he hdv hc hcur hj hjt
          go_wp2_with (with_reducible show wpList _ _ _ ({ dst := _, op := Op.load 79 _, type := _, pos := _, after := _, guard := _ } :: _) _ _; refine Shut.out ?_)
          show wpList _ _ _ _ _ _
          refine wpList_load33 rfl _ rfl (w.heap.size + 1) rfl (2 * R + bit) HX2.out.rr ?_
          simp only [Act.put, List.setIfInBounds_toArray, List.set_cons_zero, List.set_cons_succ]
          refine wpList_load32 rfl _ rfl 1 rfl L (rangeAt_grown HO.out HX2.out.gw) ?_
          simp only [Act.put, List.setIfInBounds_toArray, List.set_cons_zero, List.set_cons_succ]
          go_wp2_with fail
          refine Calls.mono (below_num (2 * R + bit) L hX33.out L_lt_M _) ?_
          rintro e w1 ⟨rfl, g1⟩
          have HX3 := Hid.of (HX2.out.grown g1)
          clear HX2 g1
          dsimp only
          by_cases hsm : 2 * R + bit < L
          · rw [decide_eq_true hsm]
            have hnew := Hid.of (show 2 * R + bit = v / 2 ^ i % L by rw [← HST.out, Nat.mod_eq_of_lt hsm])
            clear HST hX33 hsm
            go_wp2
            go_roundw
            case rel => exact ⟨i, 2 * R + bit, rfl, by omega, hnew.out, HX3.out⟩
            case measure => simp [intOf]
          · rw [decide_eq_false hsm]
            generalize 2 * R + bit = X at *
            have HXL := Hid.of (And.intro (Nat.le_of_not_lt hsm) hXL2)
            clear hsm hXL2 hbit
            go_wp2
            go_loopw [9, 10] (fun v9 v10 wr => ∃ j cur c : Nat, v10 = .int .i64 (j : Int) ∧ v9 = .int .i64 (c : Int) ∧ j ≤ 33 ∧ cur + L % 256 ^ j = X + c * 256 ^ j ∧ c ≤ 1 ∧ cur < 256 ^ 33 ∧ RX w cur wr) (fun _ v10 _ => 33 - (intOf v10).toNat)
            case atStart => exact ⟨0, X, 0, rfl, rfl, by decide, by rw [Nat.pow_zero, Nat.mod_one, Nat.zero_mul], by decide, hX33.out, HX3.out⟩
            case round =>
              obtain ⟨j, cur, c, rfl, rfl, hj, he, hc, hcur, hX2⟩ := hrel
              clear HX3 hX33
              by_cases hjt : j < 33
              · have d1 : wr.cell? ⟨w.heap.size + 1, j, none⟩ = some (.int .i64 (dg 256 cur j : Nat)) := by
                  have := hX2.rr j _ (il_get 33 cur j hjt); rwa [Nat.zero_add] at this
                have d2 : wr.frozen? ⟨w.heap.size + 1, j, none⟩ = false := by
                  have := (hX2.tr j hjt).2; rwa [Nat.zero_add] at this
                have hw : dg 256 cur j < 256 := dg_lt (by decide)
                have hl : dg 256 L j < 256 := dg_lt (by decide)
                have hsb := fun d c' (hd : d + (dg 256 L j + c) = dg 256 cur j + c' * 256) => sub_step256 he hd
                have hst2 := fun z (hz : z < 256) => st_lt (b := 256) (n := 33) (v := cur) (k := j) (z := z) (by decide) hz hjt hcur
                have hset := fun z (hz : z < 256) => hX2.set hz hjt
                have HS := Hid.of (And.intro hsb (And.intro hst2 hset))
                have b2 : (j : Int) < 33 := Int.ofNat_lt.2 hjt
                by_cases hj2 : j < 32
                · have d3 : wr.cell? ⟨1, j, none⟩ = some (.int .u8 (dg 256 L j : Nat)) := by
                    have := rangeAt_grown HO.out hX2.gw j _ (yl_get 32 L j hj2); rwa [Nat.zero_add] at this
                  have b3 : (j : Int) < 32 := Int.ofNat_lt.2 hj2
                  clear hsb hst2 hset he hcur hX2
                  generalize dg 256 L j = ld at *
                  generalize dg 256 cur j = wd at *
                  have e1 := w64s ld hl
                  by_cases hlt : wd < ld + c
                  · obtain ⟨t1, t2, t3, t4⟩ := sub_neg hlt hw hl hc
                    generalize wd + 256 - (ld + c) = d at *
                    go_wp2
                    go_roundw
                    case rel =>
                      obtain ⟨hsb, hst2, hset⟩ := HS.out
                      exact ⟨j + 1, st 256 cur j d, 1, by go_num, rfl, by omega, hsb d 1 t4, by decide, hst2 d t3, hset d t3⟩
                    case measure => simp [intOf]; omega
                  · obtain ⟨t1, t2, t3, t4⟩ := sub_pos hlt hw hl hc
                    generalize wd - (ld + c) = d at *
                    have T4 := Hid.of t4
                    have T2 := Hid.of t2
                    clear t2 t4 hlt
                    go_wp2
                    go_roundw
                    case rel =>
                      obtain ⟨hsb, hst2, hset⟩ := HS.out
                      exact ⟨j + 1, st 256 cur j d, 0, by go_num, rfl, by omega, hsb d 0 T4.out, by decide, hst2 d t3, by rw [T2.out]; exact hset d t3⟩
                    case measure => simp [intOf]; omega
                · have hj3 : j = 32 := by omega
                  subst hj3
                  have hl0 : dg 256 L 32 = 0 := by decide
                  clear hsb hst2 hset he hcur hX2
                  rw [hl0] at HS
                  generalize dg 256 cur 32 = wd at *
                  by_cases hlt : wd < 0 + c
                  · obtain ⟨t1, t2, t3, t4⟩ := sub_neg hlt hw (by decide) hc
                    generalize wd + 256 - (0 + c) = d at *
                    rw [show (((0 : Nat) : Int)) = 0 from rfl, Int.sub_zero] at t1 t2
                    go_wp2
                    go_roundw
                    case rel =>
                      obtain ⟨hsb, hst2, hset⟩ := HS.out
                      exact ⟨33, st 256 cur 32 d, 1, rfl, rfl, by omega, hsb d 1 t4, by decide, hst2 d t3, hset d t3⟩
                    case measure => simp [intOf]
                  · obtain ⟨t1, t2, t3, t4⟩ := sub_pos hlt hw (by decide) hc
                    generalize wd - (0 + c) = d at *
                    rw [show (((0 : Nat) : Int)) = 0 from rfl, Int.sub_zero] at t1 t2
                    have T4 := Hid.of t4
                    have T2 := Hid.of t2
                    clear t2 t4 hlt
                    go_wp2
                    go_roundw
                    case rel =>
                      obtain ⟨hsb, hst2, hset⟩ := HS.out
                      exact ⟨33, st 256 cur 32 d, 0, rfl, rfl, by omega, hsb d 0 T4.out, by decide, hst2 d t3, by rw [T2.out]; exact hset d t3⟩
                    case measure => simp [intOf]
              · have hj3 : j = 33 := by omega
                subst hj3
                have ec := sub_end he HXL.out.1 HXL.out.2 hcur
                have hnew := Hid.of (show cur = v / 2 ^ i % L by rw [← HST.out]; exact ec)
                have HX4 := Hid.of hX2
                clear HST HXL he hc hcur hX2 ec hj hjt
                go_wp2
                go_roundw
                case rel => exact ⟨i, cur, rfl, by omega, hnew.out, HX4.out⟩
                case measure => simp [intOf]
end Go.Proofs.YteijccjdejjbjaaDoor
