import Derived.Test.YteijccjdejjbjaaDoorQk3
import Derived.Below
import Derived.Laws.AppendOwn
namespace Go.Proofs.YteijccjdejjbjaaDoor
open Go.RowKit Go.Shelf ScalarNum

theorem il33_zero : (il 33 0).toArray = #[.int .i64 0, .int .i64 0, .int .i64 0, .int .i64 0, .int .i64 0, .int .i64 0, .int .i64 0, .int .i64 0, .int .i64 0, .int .i64 0, .int .i64 0, .int .i64 0, .int .i64 0, .int .i64 0, .int .i64 0, .int .i64 0, .int .i64 0, .int .i64 0, .int .i64 0, .int .i64 0, .int .i64 0, .int .i64 0, .int .i64 0, .int .i64 0, .int .i64 0, .int .i64 0, .int .i64 0, .int .i64 0, .int .i64 0, .int .i64 0, .int .i64 0, .int .i64 0, .int .i64 0] := by rfl

theorem w64s (q : Nat) (h : q < 256) : wrap64 (q : Int) = (q : Int) := by unfold wrap64; omega
theorem tmods (q : Nat) : (q : Int).tmod 256 = ((q % 256 : Nat) : Int) := by rw [Int.tmod_eq_emod_of_nonneg (by omega)]; omega
theorem tmod2 (q : Nat) : (q : Int).tmod 2 = ((q % 2 : Nat) : Int) := by rw [Int.tmod_eq_emod_of_nonneg (by omega)]; omega
theorem tdivs (q : Nat) : (q : Int).tdiv 256 = ((q / 256 : Nat) : Int) := by rw [Int.tdiv_eq_ediv_of_nonneg (by omega)]; omega
theorem dblb (wd c : Nat) (hw : wd < 256) (hc : c ≤ 1) : 2 * (wd : Int) + (c : Int) = ((2 * wd + c : Nat) : Int) ∧ 2 * wd + c < 512 ∧ (2 * wd + c) / 256 ≤ 1 := by omega

theorem dbl_end {cur c R bit : Nat} (h : cur + c * 256 ^ 33 = R + R % 256 ^ 33 + bit) (hR : R < L) (hR33 : R < 256 ^ 33) (hb : bit < 2) (hc : cur < 256 ^ 33) : cur = 2 * R + bit ∧ 2 * R + bit < 2 * L := by
  rw [Nat.mod_eq_of_lt hR33] at h
  have hL : 2 * L < 256 ^ 33 := by decide
  rcases c with _ | c
  · omega
  · exfalso
    have : 256 ^ 33 ≤ (c + 1) * 256 ^ 33 := Nat.le_mul_of_pos_left _ (by omega)
    omega

theorem sub_end {cur c X : Nat} (h : cur + L % 256 ^ 33 = X + c * 256 ^ 33) (h1 : L ≤ X) (h2 : X < 2 * L) (hc : cur < 256 ^ 33) : cur = X % L := by
  rw [Nat.mod_eq_of_lt (show L < 256 ^ 33 by decide)] at h
  have h3 : X % L = X - L := by
    rw [Nat.mod_eq_sub_mod h1, Nat.mod_eq_of_lt (by omega)]
  have hL : 2 * L < 256 ^ 33 := by decide
  rw [h3]
  rcases c with _ | c
  · omega
  · exfalso
    have : 256 ^ 33 ≤ (c + 1) * 256 ^ 33 := Nat.le_mul_of_pos_left _ (by omega)
    omega
theorem sub_neg {wd ld c : Nat} (h : wd < ld + c) (hw : wd < 256) (hl : ld < 256) (hc : c ≤ 1) : (wd : Int) - (c : Int) - (ld : Int) < 0 ∧ (wd : Int) - (c : Int) - (ld : Int) + 256 = ((wd + 256 - (ld + c) : Nat) : Int) ∧ wd + 256 - (ld + c) < 256 ∧ (wd + 256 - (ld + c)) + (ld + c) = wd + 1 * 256 := by omega
theorem sub_pos {wd ld c : Nat} (h : ¬ wd < ld + c) (hw : wd < 256) (hl : ld < 256) (hc : c ≤ 1) : ¬ (wd : Int) - (c : Int) - (ld : Int) < 0 ∧ (wd : Int) - (c : Int) - (ld : Int) = ((wd - (ld + c) : Nat) : Int) ∧ wd - (ld + c) < 256 ∧ (wd - (ld + c)) + (ld + c) = wd + 0 * 256 := by omega

/-- what the variables of rest hold -/
structure RX (w0 : World) (R : Nat) (wr : World) : Prop where
  t0 : wr.there w0.heap.size 0 32
  rr : wr.rangeAt (w0.heap.size + 1) 0 (il 33 R)
  tr : wr.there (w0.heap.size + 1) 0 33
  gw : Grown w0 wr
theorem RX.set {w0 wr : World} {R j z : Nat} (h : RX w0 R wr) (hz : z < 256) (hj : j < 33) : RX w0 (st 256 R j z) (wr.setCell ⟨w0.heap.size + 1, j, none⟩ (.int .i64 (z : Int))) :=
  ⟨there_setCell h.t0 _ _, irange_set h.rr hz hj, there_setCell h.tr _ _, Grown.setCell h.gw (by show _ ≤ w0.heap.size + 1; omega) _⟩
theorem RX.grown {w0 wr w' : World} {R : Nat} (h : RX w0 R wr) (hg : Grown wr w') : RX w0 R w' :=
  ⟨there_grown h.t0 hg, rangeAt_grown h.rr hg, there_grown h.tr hg, grown_trans h.gw hg⟩

theorem alloc2z (w : World) (t1 t2 : TypeId) (c1 : Array Value) (c2 : List Value) :
    ((w.alloc (.cells c1 t1)).alloc (.cells c2.toArray t2)).there w.heap.size 0 c1.size ∧
    ((w.alloc (.cells c1 t1)).alloc (.cells c2.toArray t2)).rangeAt (w.heap.size + 1) 0 c2 ∧
    ((w.alloc (.cells c1 t1)).alloc (.cells c2.toArray t2)).there (w.heap.size + 1) 0 c2.length ∧
    Grown w ((w.alloc (.cells c1 t1)).alloc (.cells c2.toArray t2)) := by
  have g1 : ∀ (w : World) (t : TypeId) (a : Array Value), Grown w (w.alloc (.cells a t)) := fun w t a => Grown.alloc (Grown.refl _) _ _
  have s1 : (w.alloc (.cells c1 t1)).heap.size = w.heap.size + 1 := by simp
  have b1 := there_alloc_new w t1 c1 c1.size (Nat.le_refl _)
  have gV1 := g1 w t1 c1
  generalize w.alloc (.cells c1 t1) = V1 at *
  have b2 := rangeAt_alloc_new V1 t2 c2
  have b3 := there_alloc_new V1 t2 c2.toArray c2.length (by simp)
  rw [s1] at b2 b3
  exact ⟨there_grown b1 (g1 _ _ _), b2, b3, grown_trans gV1 (g1 _ _ _)⟩

set_option maxRecDepth 100000 in
set_option maxHeartbeats 8000000 in
theorem rest_num (bs n v cap : Nat) (hn : n < 1099511627776) (hv : v < 256 ^ n) (w : World) (hb : w.rangeAt bs 0 (yl n v)) (hO : w.rangeAt 1 0 (yl 32 L)) :
    Calls Tryd.prog 42 #[.slice (some ⟨bs, 0, none⟩) n cap] w fun e w' => e = .returned (yv 32 (v % L)) ∧ Grown w w' := by
  have h0 := alloc2z w 23 79 (yl 32 0).toArray (il 33 0)
  rw [show (yl 32 0).toArray.size = 32 from rfl, show (il 33 0).length = 33 from rfl] at h0
  have HB := Hid.of hb
  have HO := Hid.of hO
  have HV := Hid.of hv
  clear hb hO hv
  have hni : (n : Int) < 1099511627776 := by omega
  go_enter Tryd.func42, Tryd.ntmps42
  go_wp2
  rw [← yl32_zero, ← il33_zero]
  generalize ((w.alloc (Obj.cells (yl 32 0).toArray 23)).alloc (Obj.cells (il 33 0).toArray 79)) = W0 at *
  have H0 := Hid.of (show RX w 0 W0 from ⟨h0.1, h0.2.1, h0.2.2.1, h0.2.2.2⟩)
  clear h0
  go_loopw [4] (fun v4 wr => ∃ k R : Nat, v4 = .int .i64 ((k : Int) - 1) ∧ k ≤ 8 * n ∧ R = v / 2 ^ k % L ∧ RX w R wr) (fun v4 _ => (intOf v4 + 1).toNat)
  case atStart =>
    refine ⟨8 * n, 0, ?_, Nat.le_refl _, ?_, H0.out⟩
    · simp
    · rw [show 2 ^ (8 * n) = 256 ^ n from by rw [Nat.pow_mul], Nat.div_eq_of_lt HV.out, Nat.zero_mod]
  case round =>
    obtain ⟨k, R, rfl, hk, hR, hX⟩ := hrel
    clear H0
    have HX := Hid.of hX
    have HR := Hid.of hR
    have hRL : R < L := by rw [hR]; exact modL_lt _
    clear hX hR
    rcases Nat.eq_zero_or_pos k with rfl | hpos
    · have eR : R = v % L := by rw [HR.out, Nat.pow_zero, Nat.div_one]
      have hRM : R < M := Nat.lt_trans hRL L_lt_M
      have HE := Hid.of eR
      have HRM := Hid.of hRM
      clear HR hRL hk eR hRM
      have h9 : (wr.alloc (Obj.cells (yl 32 0).toArray 23)).rangeAt wr.heap.size 0 (yl 32 0) ∧ (wr.alloc (Obj.cells (yl 32 0).toArray 23)).there wr.heap.size 0 32 ∧ Grown wr (wr.alloc (Obj.cells (yl 32 0).toArray 23)) :=
        ⟨rangeAt_alloc_new wr 23 (yl 32 0), there_alloc_new wr 23 (yl 32 0).toArray 32 (by rw [List.size_toArray, yl_length]; exact Nat.le_refl _), Grown.alloc (Grown.refl _) _ _⟩
      have hlo : w.heap.size + 1 < wr.heap.size := there_lt HX.out.tr (by decide)
      go_wp2
      rw [← yl32_zero]
      have H9 := Hid.of (show RX w R (wr.alloc (Obj.cells (yl 32 0).toArray 23)) ∧ (wr.alloc (Obj.cells (yl 32 0).toArray 23)).rangeAt wr.heap.size 0 (yl 32 (R % 256 ^ 0)) ∧ (wr.alloc (Obj.cells (yl 32 0).toArray 23)).there wr.heap.size 0 32 from ⟨HX.out.grown h9.2.2, by rw [Nat.pow_zero, Nat.mod_one]; exact h9.1, h9.2.1⟩)
      clear h9 HX
      generalize wr.heap.size = bo at *
      generalize wr.alloc (Obj.cells (yl 32 0).toArray 23) = W9 at *
      go_loopw [13] (fun v13 wr => ∃ j : Nat, v13 = .int .i64 (j : Int) ∧ j ≤ 32 ∧ RX w R wr ∧ wr.rangeAt bo 0 (yl 32 (R % 256 ^ j)) ∧ wr.there bo 0 32) (fun v13 _ => 32 - (intOf v13).toNat)
      case atStart => exact ⟨0, rfl, by decide, H9.out⟩
      case round =>
        obtain ⟨j, rfl, hj, hX, hro, hto⟩ := hrel
        clear H9
        by_cases hjt : j < 32
        · have d1 : wr.cell? ⟨w.heap.size + 1, j, none⟩ = some (.int .i64 (dg 256 R j : Nat)) := by
            have := hX.rr j _ (il_get 33 R j (by omega)); rwa [Nat.zero_add] at this
          have d2 : wr.frozen? ⟨bo, j, none⟩ = false := by
            have := (hto j hjt).2; rwa [Nat.zero_add] at this
          have d3 := hro j _ (yl_get 32 _ j hjt)
          rw [Nat.zero_add] at d3
          generalize (Value.int IntKind.u8 (dg 256 (R % 256 ^ j) j : Nat)) = u0 at d3
          have hl2 := by_step R j
          have hw : dg 256 R j < 256 := dg_lt (by decide)
          generalize dg 256 R j = wd at *
          have hwi : (wd : Int) < 256 := Int.ofNat_lt.2 hw
          have b2 : (j : Int) < 32 := Int.ofNat_lt.2 hjt
          have HY := Hid.of (And.intro hl2 (And.intro hX (And.intro hro hto)))
          clear hl2 hX hro hto
          go_wp2
          try rw [show ((wd : Int) % 256) = (wd : Int) from by omega]
          go_roundw
          case rel =>
            obtain ⟨hl2, hX, hro, hto⟩ := HY.out
            have r1 := yrange_set hro hw hjt
            rw [hl2] at r1
            exact ⟨j + 1, by go_num, by omega, ⟨there_setCell hX.t0 _ _, range_put hX.rr _ _ (by omega) _, there_setCell hX.tr _ _, Grown.setCell hX.gw (by show _ ≤ bo; omega) _⟩, r1, there_setCell hto _ _⟩
          case measure => simp [intOf]; omega
        · have hj3 : j = 32 := by omega
          subst hj3
          rw [show (256 : Nat) ^ 32 = M from by decide, Nat.mod_eq_of_lt HRM.out, HE.out] at hro
          have HY := Hid.of (And.intro hro (And.intro hX.t0 hX.gw))
          clear hro hX hto hj hjt
          go_wp2_with (with_reducible show wpList _ _ _ ({ dst := _, op := Op.load 23 _, type := _, pos := _, after := _, guard := _ } :: _) _ _; refine Shut.out ?_)
          show wpList _ _ _ _ _ _
          refine wpList_load32 rfl _ rfl (bo) rfl (v % L) (HY.out.1) ?_
          simp only [Act.put, List.setIfInBounds_toArray, List.set_cons_zero, List.set_cons_succ]
          refine wpList_store32 rfl _ _ rfl (w.heap.size) (v % L) rfl rfl (HY.out.2.1) ?_
          simp only [Act.put]
          apply wpList_nil
          repeat go_step
          refine bodyPost_ret (v := yv 32 (v % L)) (result32 Tryd.results42 _ _ (w.heap.size) _ ?hp (World.rangeAt_setCells_same _ _ _ _ (by rw [yl_length]; exact HY.out.2.1))) ?hd ?_
          case hp => rfl
          case hd => rfl
          exact ⟨rfl, grown_setCells (by omega) _ _ (HY.out.2.2)⟩
    · obtain ⟨i, rfl⟩ : ∃ i, k = i + 1 := ⟨k - 1, by omega⟩
      have ei : ((i + 1 : Nat) : Int) - 1 = (i : Int) := by omega
      rw [ei]
      clear ei
      have b1 : (i : Int) < 8 * (n : Int) := by omega
      have c1 : wr.cell? ⟨bs, i / 8, none⟩ = some (.int .u8 (dg 256 v (i / 8) : Nat)) := by
        have := rangeAt_grown HB.out HX.out.gw (i / 8) _ (yl_get n v (i / 8) (by omega)); rwa [Nat.zero_add] at this
      have hbb := bit_byte v i
      have hst := rest_step L v i
      have hd8 : dg 256 v (i / 8) < 256 := dg_lt (by decide)
      generalize dg 256 v (i / 8) = bt at *
      have hbit : v / 2 ^ i % 2 < 2 := Nat.mod_lt _ (by decide)
      have hq8 : bt / 2 ^ (i % 8) < 256 := Nat.lt_of_le_of_lt (Nat.div_le_self _ _) hd8
      have eq1 : (bt : Int) / 2 ^ (i % 8) = ((bt / 2 ^ (i % 8) : Nat) : Int) := by simp
      generalize bt / 2 ^ (i % 8) = q at *
      have eq2 := w64s q hq8
      have eq3 : (q : Int).tmod 2 = ((v / 2 ^ i % 2 : Nat) : Int) := by rw [← hbb]; exact tmod2 q
      rw [← HR.out] at hst
      have HST := Hid.of hst
      clear hbb hst HR hq8
      generalize v / 2 ^ i % 2 = bit at *
      go_wp2
      clear eq1 eq2 eq3 c1
      have hRM : R < 256 ^ 33 := Nat.lt_trans hRL (by decide)
      have HRL := Hid.of (And.intro hRL hRM)
      clear hRL hRM
      go_loopw [5, 6] (fun v5 v6 wr => ∃ j cur c : Nat, v6 = .int .i64 (j : Int) ∧ v5 = .int .i64 (c : Int) ∧ j ≤ 33 ∧ cur + c * 256 ^ j = R + R % 256 ^ j + bit ∧ cur / 256 ^ j = R / 256 ^ j ∧ c ≤ 1 ∧ cur < 256 ^ 33 ∧ RX w cur wr) (fun _ v6 _ => 33 - (intOf v6).toNat)
      case atStart => exact ⟨0, R, bit, rfl, rfl, by decide, by rw [Nat.pow_zero, Nat.mod_one, Nat.mul_one, Nat.add_zero], rfl, Nat.le_of_lt_succ hbit, HRL.out.2, HX.out⟩
      case round =>
        obtain ⟨j, cur, c, rfl, rfl, hj, he, hdv, hc, hcur, hX2⟩ := hrel
        clear HX
        by_cases hjt : j < 33
        · have d1 : wr.cell? ⟨w.heap.size + 1, j, none⟩ = some (.int .i64 (dg 256 cur j : Nat)) := by
            have := hX2.rr j _ (il_get 33 cur j hjt); rwa [Nat.zero_add] at this
          have d2 : wr.frozen? ⟨w.heap.size + 1, j, none⟩ = false := by
            have := (hX2.tr j hjt).2; rwa [Nat.zero_add] at this
          obtain ⟨s1, s2⟩ := dbl_step he hdv
          have hw : dg 256 cur j < 256 := dg_lt (by decide)
          have hst2 := st_lt (b := 256) (n := 33) (v := cur) (k := j) (z := (2 * dg 256 cur j + c) % 256) (by decide) (Nat.mod_lt _ (by decide)) hjt hcur
          generalize dg 256 cur j = wd at *
          obtain ⟨es, hs2, q3⟩ := dblb wd c hw hc
          generalize 2 * wd + c = s at *
          have q1 := tmods s
          have q2 := tdivs s
          have b2 : (j : Int) < 33 := Int.ofNat_lt.2 hjt
          have HY := Hid.of (And.intro s1 (And.intro s2 (And.intro q3 (And.intro hst2 hX2))))
          clear s1 s2 hst2 hX2 he hdv hcur
          go_wp2
          go_roundw
          case rel =>
            obtain ⟨s1, s2, q3, hst2, hX2⟩ := HY.out
            refine ⟨j + 1, st 256 cur j (s % 256), s / 256, by go_num, by simp, by omega, s1, s2, q3, hst2, ?_⟩
            have h := hX2.set (z := s % 256) (Nat.mod_lt _ (by decide)) hjt
            rw [show ((s % 256 : Nat) : Int) = (s : Int) % 256 from by simp] at h
            exact h
          case measure => simp [intOf]; omega
        · have hj3 : j = 33 := by omega
          subst hj3
          obtain ⟨ec, hXL2⟩ := dbl_end he HRL.out.1 HRL.out.2 hbit hcur
          subst ec
          have HX2 := Hid.of hX2
          have hX33 := Hid.of hcur
          clear hX2 he hdv hc hcur hj hjt
          go_wp2_with (with_reducible show wpList _ _ _ ({ dst := _, op := Op.load 79 _, type := _, pos := _, after := _, guard := _ } :: _) _ _; refine Shut.out ?_)
          show wpList _ _ _ _ _ _
          refine wpList_load33 rfl _ rfl (w.heap.size + 1) rfl (2 * R + bit) HX2.out.rr ?_
          simp only [Act.put, List.setIfInBounds_toArray, List.set_cons_zero, List.set_cons_succ]
          refine wpList_load32 rfl _ rfl 1 rfl L (rangeAt_grown HO.out HX2.out.gw) ?_
          simp only [Act.put, List.setIfInBounds_toArray, List.set_cons_zero, List.set_cons_succ]
          go_wp2_with fail
          refine Calls.mono (below_num (2 * R + bit) L hX33.out L_lt_M _) ?_
          rintro e w1 ⟨rfl, g1⟩
          have HX3 := Hid.of (HX2.out.grown g1)
          clear HX2 g1
          dsimp only
          by_cases hsm : 2 * R + bit < L
          · rw [decide_eq_true hsm]
            have hnew := Hid.of (show 2 * R + bit = v / 2 ^ i % L by rw [← HST.out, Nat.mod_eq_of_lt hsm])
            clear HST hX33 hsm
            go_wp2
            go_roundw
            case rel => exact ⟨i, 2 * R + bit, rfl, by omega, hnew.out, HX3.out⟩
            case measure => simp [intOf]
          · rw [decide_eq_false hsm]
            generalize 2 * R + bit = X at *
            have HXL := Hid.of (And.intro (Nat.le_of_not_lt hsm) hXL2)
            clear hsm hXL2 hbit
            go_wp2
            go_loopw [9, 10] (fun v9 v10 wr => ∃ j cur c : Nat, v10 = .int .i64 (j : Int) ∧ v9 = .int .i64 (c : Int) ∧ j ≤ 33 ∧ cur + L % 256 ^ j = X + c * 256 ^ j ∧ c ≤ 1 ∧ cur < 256 ^ 33 ∧ RX w cur wr) (fun _ v10 _ => 33 - (intOf v10).toNat)
            case atStart => exact ⟨0, X, 0, rfl, rfl, by decide, by rw [Nat.pow_zero, Nat.mod_one, Nat.zero_mul], by decide, hX33.out, HX3.out⟩
            case round =>
              obtain ⟨j, cur, c, rfl, rfl, hj, he, hc, hcur, hX2⟩ := hrel
              clear HX3 hX33
              by_cases hjt : j < 33
              · have d1 : wr.cell? ⟨w.heap.size + 1, j, none⟩ = some (.int .i64 (dg 256 cur j : Nat)) := by
                  have := hX2.rr j _ (il_get 33 cur j hjt); rwa [Nat.zero_add] at this
                have d2 : wr.frozen? ⟨w.heap.size + 1, j, none⟩ = false := by
                  have := (hX2.tr j hjt).2; rwa [Nat.zero_add] at this
                have hw : dg 256 cur j < 256 := dg_lt (by decide)
                have hl : dg 256 L j < 256 := dg_lt (by decide)
                have hsb := fun d c' (hd : d + (dg 256 L j + c) = dg 256 cur j + c' * 256) => sub_step256 he hd
                have hst2 := fun z (hz : z < 256) => st_lt (b := 256) (n := 33) (v := cur) (k := j) (z := z) (by decide) hz hjt hcur
                have hset := fun z (hz : z < 256) => hX2.set hz hjt
                have HS := Hid.of (And.intro hsb (And.intro hst2 hset))
                have b2 : (j : Int) < 33 := Int.ofNat_lt.2 hjt
                by_cases hj2 : j < 32
                · have d3 : wr.cell? ⟨1, j, none⟩ = some (.int .u8 (dg 256 L j : Nat)) := by
                    have := rangeAt_grown HO.out hX2.gw j _ (yl_get 32 L j hj2); rwa [Nat.zero_add] at this
                  have b3 : (j : Int) < 32 := Int.ofNat_lt.2 hj2
                  clear hsb hst2 hset he hcur hX2
                  generalize dg 256 L j = ld at *
                  generalize dg 256 cur j = wd at *
                  have e1 := w64s ld hl
                  by_cases hlt : wd < ld + c
                  · obtain ⟨t1, t2, t3, t4⟩ := sub_neg hlt hw hl hc
                    generalize wd + 256 - (ld + c) = d at *
                    go_wp2
                    go_roundw
                    case rel =>
                      obtain ⟨hsb, hst2, hset⟩ := HS.out
                      exact ⟨j + 1, st 256 cur j d, 1, by go_num, rfl, by omega, hsb d 1 t4, by decide, hst2 d t3, hset d t3⟩
                    case measure => simp [intOf]; omega
                  · obtain ⟨t1, t2, t3, t4⟩ := sub_pos hlt hw hl hc
                    generalize wd - (ld + c) = d at *
                    have T4 := Hid.of t4
                    have T2 := Hid.of t2
                    clear t2 t4 hlt
                    go_wp2
                    go_roundw
                    case rel =>
                      obtain ⟨hsb, hst2, hset⟩ := HS.out
                      exact ⟨j + 1, st 256 cur j d, 0, by go_num, rfl, by omega, hsb d 0 T4.out, by decide, hst2 d t3, by rw [T2.out]; exact hset d t3⟩
                    case measure => simp [intOf]; omega
                · have hj3 : j = 32 := by omega
                  subst hj3
                  have hl0 : dg 256 L 32 = 0 := by decide
                  clear hsb hst2 hset he hcur hX2
                  rw [hl0] at HS
                  generalize dg 256 cur 32 = wd at *
                  by_cases hlt : wd < 0 + c
                  · obtain ⟨t1, t2, t3, t4⟩ := sub_neg hlt hw (by decide) hc
                    generalize wd + 256 - (0 + c) = d at *
                    rw [show (((0 : Nat) : Int)) = 0 from rfl, Int.sub_zero] at t1 t2
                    go_wp2
                    go_roundw
                    case rel =>
                      obtain ⟨hsb, hst2, hset⟩ := HS.out
                      exact ⟨33, st 256 cur 32 d, 1, rfl, rfl, by omega, hsb d 1 t4, by decide, hst2 d t3, hset d t3⟩
                    case measure => simp [intOf]
                  · obtain ⟨t1, t2, t3, t4⟩ := sub_pos hlt hw (by decide) hc
                    generalize wd - (0 + c) = d at *
                    rw [show (((0 : Nat) : Int)) = 0 from rfl, Int.sub_zero] at t1 t2
                    have T4 := Hid.of t4
                    have T2 := Hid.of t2
                    clear t2 t4 hlt
                    go_wp2
                    go_roundw
                    case rel =>
                      obtain ⟨hsb, hst2, hset⟩ := HS.out
                      exact ⟨33, st 256 cur 32 d, 0, rfl, rfl, by omega, hsb d 0 T4.out, by decide, hst2 d t3, by rw [T2.out]; exact hset d t3⟩
                    case measure => simp [intOf]
              · have hj3 : j = 33 := by omega
                subst hj3
                have ec := sub_end he HXL.out.1 HXL.out.2 hcur
                have hnew := Hid.of (show cur = v / 2 ^ i % L by rw [← HST.out]; exact ec)
                have HX4 := Hid.of hX2
                clear HST HXL he hc hcur hX2 ec hj hjt
                go_wp2
                go_roundw
                case rel => exact ⟨i, cur, rfl, by omega, hnew.out, HX4.out⟩
                case measure => simp [intOf]
end Go.Proofs.YteijccjdejjbjaaDoor
namespace Go.Proofs.YteijccjdejjbjaaDoor
open Go.RowKit Go.Shelf ScalarNum

theorem frozen_drew (w : World) (a : Addr) : w.drew.frozen? a = w.frozen? a := rfl
theorem frozen_setRow {w : World} {g : Nat} {cur : Array Value} {e : TypeId} (hg : w.heap[g]? = some (.cells cur e (0, 0))) (cs : Array Value) (a : Addr) : (w.setRow g cs).frozen? a = w.frozen? a := by
  by_cases h : a.block = g
  · have e1 : (w.setRow g cs).heap[a.block]? = some (.cells cs e (0, 0)) := by rw [h]; exact setRow_heap w g cur _ e _ hg
    have e2 : w.heap[a.block]? = some (.cells cur e (0, 0)) := by rw [h]; exact hg
    simp [World.frozen?, e1, e2]
  · have e1 : (w.setRow g cs).heap[a.block]? = w.heap[a.block]? := setRow_other w g a.block _ h
    simp [World.frozen?, e1]

/-- one element of one cell and one byte is appended to a slice of one's own: nothing is frozen by it -/
theorem append_one {w : World} {base : Nat} {t e ty : TypeId} {i : TypeInfo} {z : Value} (ht : Tryd.prog.underlying t = some (.slice e)) (hi : Tryd.prog.info? e = some i) (hz : i.zero = some z)
    (hsize : i.size = 1) (hby : i.bytes = 1) (hzs : z.cells.size = 1)
    {v : Value} {n : Nat} {xs : List Value} (hown : w.ownsRow base e 1 v n xs) (ad : Addr) (c : Nat) (u : Value) (hu : w.cell? (ad.add 0) = some u) (h1 : u.oneCell' = true)
    (hn : n < 1099511627776) (hbase : base ≤ w.heap.size) :
    ∃ v' w', (Builtin.append_ #[t, t] ty #[v, .slice (some ad) 1 c]).run Tryd.prog w = .ok v' w' ∧ w'.ownsRow base e 1 v' (n + 1) (xs ++ [u]) ∧ w.grownBy w' v.ownBlock ∧ (∃ g cap, v' = .slice (some ⟨g, 0, none⟩) (n + 1) cap) ∧ ∀ a, w'.frozen? a = w.frozen? a := by
  have hnews : ∀ j x, [u][j]? = some x → w.cell? (ad.add j) = some x := by
    intro j x hx
    match j, hx with
    | 0, hx => simp at hx; subst hx; exact hu
  have hone : ∀ x ∈ [u], x.oneCell' = true := by intro x hx; simp at hx; subst hx; exact h1
  have h63 : n + 1 ≤ maxLen := by unfold maxLen; omega
  obtain ⟨v', w', hr, ho, hg, hiff⟩ := run_append_own (P := Tryd.prog) w base t ty e i z 1 1 ht hi hz hsize hby hzs (by decide) v n xs hown ad 1 c [u] (by simp) hnews hone h63 (by omega) hbase
  refine ⟨v', w', hr, ho, hg, ?_, ?_⟩
  · rcases ho.2 with ⟨_, h⟩ | ⟨g, cap, _, h, _⟩
    · omega
    · exact ⟨g, cap, h⟩
  · rcases hown.2 with ⟨rfl, rfl⟩ | ⟨g, cap, cur, rfl, hbg, hgg, hnc, hcm, hcs, htake⟩
    · have h2 := run_append_nil (P := Tryd.prog) w t ty e i z ht hi hz ad 1 c [u] (by simp [hsize]) hnews (by decide) (by decide) (by rw [hby]; decide)
      rw [h2] at hr
      injection hr with _ hw
      subst hw
      intro a
      rw [frozen?_alloc_cells]; rfl
    · by_cases hroom : n + 1 ≤ cap
      · have h2 := run_append_room (P := Tryd.prog) w t ty e i ht hi g n cap cur hgg ad 1 c [u] (by simp [hsize]) hnews hone hroom (by rw [hsize, hcs]; simp; omega)
        rw [h2] at hr
        injection hr with _ hw
        subst hw
        intro a
        exact frozen_setRow hgg _ a
      · have holds : ∀ j x, xs[j]? = some x → w.cell? ((⟨g, 0, none⟩ : Addr).add j) = some x := hown.cells (g := g) rfl
        have h2 := run_append_grow (P := Tryd.prog) w t ty e i z ht hi hz ⟨g, 0, none⟩ n cap xs (by rw [hsize]; exact hown.1) holds ad 1 c [u] (by simp [hsize]) hnews (by omega) (by omega) (growslice_fits (by omega) (by rw [hby]; omega))
        rw [h2] at hr
        injection hr with _ hw
        subst hw
        intro a
        rw [frozen?_alloc_cells]; rfl

theorem grown_by {w0 w w' : World} {row : Option Nat} (h0 : Grown w0 w) (hg : w.grownBy w' row) (hr : ∀ k, row = some k → w0.heap.size ≤ k) (hf : ∀ a, w'.frozen? a = w.frozen? a) : Grown w0 w' := by
  refine ⟨⟨hg.os.trans h0.1.1, hg.output.trans h0.1.2.1, fun i hi => ?_⟩, fun a => (hf a).trans (h0.2.1 a), Nat.le_trans h0.2.2 hg.size⟩
  rw [hg.block i (Nat.lt_of_lt_of_le hi h0.2.2) (fun e => by have := hr i e.symm; omega)]
  exact h0.1.2.2 i hi

/-- what a slice of one's own holds -/
theorem owns_range {w : World} {base : Nat} {e : TypeId} {n : Nat} {xs : List Value} {g cap : Nat} (h : w.ownsRow base e 1 (.slice (some ⟨g, 0, none⟩) n cap) n xs) : w.rangeAt g 0 xs := by
  intro j u hj
  have := h.cells (g := g) rfl j u hj
  rw [Addr.add_lit] at this
  exact this

/-- the step, with what has grown since W0 -/
theorem wpList_append_one {ops : Array Oper} {rest : List Oper} {o : Oper} {a : Act} {w W0 : World} {Q : Exit → Act → World → Prop} (hgd : o.guard = none) (s x : Operand) {t e : TypeId} {i : TypeInfo} {z : Value}
    (ho : o.op = .call { callee := .builtin .append, args := #[s, x], argTypes := #[t, t] })
    (ht : Tryd.prog.underlying t = some (.slice e)) (hi : Tryd.prog.info? e = some i) (hz : i.zero = some z) (hsize : i.size = 1) (hby : i.bytes = 1) (hzs : z.cells.size = 1)
    (v : Value) (n : Nat) (xs : List Value) (hs : a.eval s = v) (hown : w.ownsRow W0.heap.size e 1 v n xs) (ad : Addr) (c : Nat) (u : Value) (hx : a.eval x = .slice (some ad) 1 c) (hu : w.cell? (ad.add 0) = some u) (h1 : u.oneCell' = true)
    (hn : n < 1099511627776) (hg : Grown W0 w)
    (h : ∀ v' w', w'.ownsRow W0.heap.size e 1 v' (n + 1) (xs ++ [u]) → w.grownBy w' v.ownBlock → (∃ g cap, v' = .slice (some ⟨g, 0, none⟩) (n + 1) cap) → Grown W0 w' → wpList Tryd.prog ops Q rest (a.put o.dst v') w') : wpList Tryd.prog ops Q (o :: rest) a w := by
  refine wpList_plain hgd fun K hK => ?_
  obtain ⟨v', w', hr, h2, h3, h4, h5⟩ := append_one (ty := o.type) ht hi hz hsize hby hzs hown ad c u hu h1 hn hg.2.2
  unfold Oper.wp execOp
  simp only [ho, resolve, invoke, builtin, Sem.run_bind, Sem.run_pure, Result.andThen_ok, List.map_toArray, List.map_cons, List.map_nil, hs, hx, hr]
  exact hK _ _ (h v' w' h2 h3 h4 (grown_by hg h3 (fun k hk => (hown.lt k hk).1) h5))
end Go.Proofs.YteijccjdejjbjaaDoor
namespace Go.Proofs.YteijccjdejjbjaaDoor
open Go.RowKit Go.Shelf ScalarNum

theorem yl_succ (n x : Nat) : yl n x ++ [.int .u8 ((dg 256 x n : Nat) : Int)] = yl (n + 1) x := by
  simp [yl, ds, List.range_succ]
theorem hI8 : ∃ i, Tryd.prog.info? 5 = some i ∧ i.zero = some (.int .u8 0) ∧ i.size = 1 ∧ i.bytes = 1 := by
  obtain ⟨i, hi⟩ : ∃ i, Tryd.prog.info? 5 = some i := Option.isSome_iff_exists.1 (by kernel_rfl)
  have h1 : (Tryd.prog.info? 5).map (fun i => (i.zero, i.size, i.bytes)) = some (some (.int .u8 0), 1, 1) := by kernel_rfl
  rw [hi] at h1
  simp at h1
  exact ⟨i, hi, h1.1, h1.2.1, h1.2.2⟩

/-- a slice that holds the bytes of a number -/
def SL (n x : Nat) (v : Value) (w : World) : Prop := ∃ g cap, v = .slice (some ⟨g, 0, none⟩) n cap ∧ w.rangeAt g 0 (yl n x)
theorem SL.grown {n x : Nat} {v : Value} {w w' : World} (h : SL n x v w) (hg : Grown w w') : SL n x v w' := by
  obtain ⟨g, cap, rfl, hr⟩ := h
  exact ⟨g, cap, rfl, rangeAt_grown hr hg⟩

set_option maxRecDepth 100000 in
set_option maxHeartbeats 1000000 in
theorem list_num (x : Nat) (w : World) : Calls Tryd.prog 52 #[yv 32 x] w fun e w' => (∃ v, e = .returned v ∧ SL 32 x v w') ∧ Grown w w' := by
  obtain ⟨ii, hi1, hi2, hi3, hi4⟩ := hI8
  have h0 := rangeAt_alloc_new w 23 (yl 32 x)
  have g0 : Grown w (w.alloc (.cells (yl 32 x).toArray 23)) := Grown.alloc (Grown.refl _) _ _
  rw [yv]
  go_enter Tryd.func52, Tryd.ntmps52
  go_wp2
  generalize (w.alloc (.cells (yl 32 x).toArray 23)) = W1 at *
  have H0 := Hid.of h0
  have G0 := Hid.of g0
  clear h0 g0
  go_loopw [3, 4] (fun v3 v4 wr => ∃ i : Nat, v4 = .int .i64 (i : Int) ∧ i ≤ 32 ∧ wr.ownsRow W1.heap.size 5 1 v3 i (yl i x) ∧ (i = 0 ∨ ∃ g cap, v3 = .slice (some ⟨g, 0, none⟩) i cap) ∧ Grown W1 wr) (fun _ v4 _ => 32 - (intOf v4).toNat)
  case atStart => exact ⟨0, rfl, by decide, World.ownsRow_nil _ _ _ _, .inl rfl, Grown.refl _⟩
  case round =>
    obtain ⟨i, rfl, hi, hown, hsl, hg⟩ := hrel
    by_cases hlt : i < 32
    · have d1 : wr.cell? ⟨w.heap.size, i, none⟩ = some (.int .u8 (dg 256 x i : Nat)) := by
        have := rangeAt_grown H0.out hg i _ (yl_get 32 x i hlt); rwa [Nat.zero_add] at this
      have b1 : (i : Int) < 32 := Int.ofNat_lt.2 hlt
      have HO := Hid.of hown
      have HG := Hid.of hg
      have HY := Hid.of (yl_succ i x)
      clear hown hg hsl
      generalize dg 256 x i = d at *
      go_wp2_with (with_reducible show wpList _ _ _ ({ dst := _, op := Op.call { callee := Callee.builtin Builtin.append, args := _, argTypes := _ }, type := _, pos := _, after := _, guard := _ } :: _) _ _; refine Shut.out ?_)
      show wpList _ _ _ _ _ _
      refine wpList_append_one (W0 := W1) rfl _ _ rfl Tryd.underlying64 hi1 hi2 hi3 hi4 rfl _ i (yl i x) rfl (HO.out.alloc _) ⟨wr.heap.size, 0, none⟩ 1 (.int .u8 (d : Int)) rfl (by simp [Addr.add]) rfl (by omega) (Grown.alloc HG.out _ _) ?_
      intro v' w' ho' hgr hv' hg'
      rw [HY.out] at ho'
      simp only [Act.put, List.setIfInBounds_toArray, List.set_cons_zero, List.set_cons_succ]
      have HO' := Hid.of ho'
      have HG' := Hid.of hg'
      have HV' := Hid.of hv'
      clear ho' hg' hv' hgr HO HG HY d1
      go_wp2
      go_roundw
      case rel => exact ⟨i + 1, by go_num, by omega, HO'.out, .inr HV'.out, HG'.out⟩
      case measure => simp [intOf]; omega
    · have hi32 : i = 32 := by omega
      subst hi32
      obtain ⟨g, cap, rfl⟩ := hsl.resolve_left (by decide)
      have HR := Hid.of (And.intro (owns_range hown) (grown_trans G0.out hg))
      clear hown hg hi hlt hsl
      go_wp2
      go_ret
      exact ⟨⟨_, rfl, g, cap, rfl, HR.out.1⟩, HR.out.2⟩
end Go.Proofs.YteijccjdejjbjaaDoor
namespace ScalarNum

/-- a column of a product: the first i rows -/
def cs (x y : Nat) : Nat → Nat → Nat
  | 0, _ => 0
  | i + 1, m => cs x y i m + (if i ≤ m then dg 256 x i * dg 256 y (m - i) else 0)
/-- K columns of the first i rows -/
def us (x y i : Nat) : Nat → Nat
  | 0 => 0
  | K + 1 => us x y i K + cs x y i K * 256 ^ K

theorem us_row (x y i : Nat) : ∀ K, us x y (i + 1) K = us x y i K + dg 256 x i * 256 ^ i * (y % 256 ^ (K - i))
  | 0 => by
    simp only [us]
    rw [Nat.zero_sub, Nat.pow_zero, Nat.mod_one, Nat.mul_zero]
  | K + 1 => by
    have ih := us_row x y i K
    simp only [us, cs]
    rw [ih]
    by_cases h : i ≤ K
    · rw [if_pos h]
      have e1 : K + 1 - i = (K - i) + 1 := by omega
      have e2 : 256 ^ K = 256 ^ i * 256 ^ (K - i) := by rw [← Nat.pow_add]; congr 1; omega
      rw [e1, mod_succ 256 y (K - i), Nat.add_mul, Nat.mul_add, e2]
      generalize 256 ^ i = P
      generalize 256 ^ (K - i) = R
      generalize dg 256 x i = a
      generalize dg 256 y (K - i) = b
      generalize y % R = z
      have e3 : a * b * (P * R) = a * P * (b * R) := by
        simp only [Nat.mul_left_comm, Nat.mul_comm]
      rw [e3]
      omega
    · rw [if_neg h, show K + 1 - i = 0 by omega, show K - i = 0 by omega]
      simp only [Nat.pow_zero, Nat.mod_one, Nat.mul_zero, Nat.add_zero]
theorem us_zero (x y : Nat) : ∀ K, us x y 0 K = 0
  | 0 => rfl
  | K + 1 => by simp only [us, cs]; rw [us_zero x y K, Nat.zero_mul]
theorem us_full {x y : Nat} (hy : y < M) : ∀ i, i ≤ 32 → us x y i 64 = x % 256 ^ i * y
  | 0, _ => by rw [us_zero, Nat.pow_zero, Nat.mod_one, Nat.zero_mul]
  | i + 1, h => by
    rw [us_row, us_full hy i (by omega), mod_succ]
    have e : y % 256 ^ (64 - i) = y := Nat.mod_eq_of_lt (Nat.lt_of_lt_of_le hy (by rw [show M = 256 ^ 32 from by decide]; exact Nat.pow_le_pow_right (by decide) (by omega)))
    rw [e, Nat.add_mul]
theorem us_mul {x y : Nat} (hx : x < M) (hy : y < M) : us x y 32 64 = x * y := by
  rw [us_full hy 32 (Nat.le_refl _), show (256 : Nat) ^ 32 = M from by decide, Nat.mod_eq_of_lt hx]
theorem cs_stop (x y k : Nat) : ∀ i, k + 1 ≤ i → cs x y i k = cs x y (k + 1) k
  | 0, h => by omega
  | i + 1, h => by
    by_cases e : k + 1 = i + 1
    · rw [e]
    · have := cs_stop x y k i (by omega)
      simp only [cs] at this ⊢
      rw [this, if_neg (show ¬ i ≤ k by omega), Nat.add_zero]
theorem cs_le (x y k : Nat) : ∀ i, cs x y i k ≤ i * 65025
  | 0 => by simp [cs]
  | i + 1 => by
    have ih := cs_le x y k i
    simp only [cs]
    have h1 : dg 256 x i ≤ 255 := Nat.le_of_lt_succ (dg_lt (by decide))
    have h2 : dg 256 y (k - i) ≤ 255 := Nat.le_of_lt_succ (dg_lt (by decide))
    have h3 : dg 256 x i * dg 256 y (k - i) ≤ 255 * 255 := Nat.mul_le_mul h1 h2
    generalize dg 256 x i * dg 256 y (k - i) = pr at *
    have h4 : pr ≤ 65025 := h3
    have h5 : (i + 1) * 65025 = i * 65025 + 65025 := Nat.succ_mul _ _
    rw [h5]
    split
    · exact Nat.add_le_add ih h4
    · exact Nat.le_trans (by rw [Nat.add_zero]; exact ih) (Nat.le_add_right _ _)
theorem dg_beyond {n y j : Nat} (hy : y < 256 ^ n) (h : n ≤ j) : dg 256 y j = 0 := by
  unfold dg
  rw [Nat.div_eq_of_lt (Nat.lt_of_lt_of_le hy (Nat.pow_le_pow_right (by decide) h)), Nat.zero_mod]
theorem cs_next {x y i k : Nat} (h : i ≤ k) : cs x y (i + 1) k = cs x y i k + dg 256 x i * dg 256 y (k - i) := by
  simp only [cs]; rw [if_pos h]

/-- a digit is laid down -/
theorem lay_step {D v T k : Nat} (hD : D < 256 ^ k) (h : D + v * 256 ^ k = T) : D + v % 256 * 256 ^ k < 256 ^ (k + 1) ∧ D + v % 256 * 256 ^ k + v / 256 * 256 ^ (k + 1) = T := by
  have h1 := Nat.div_add_mod v 256
  have h2 : v % 256 + 1 ≤ 256 := Nat.mod_lt _ (by decide)
  have h3 : (v % 256 + 1) * 256 ^ k ≤ 256 * 256 ^ k := Nat.mul_le_mul_right _ h2
  rw [Nat.add_mul] at h3
  rw [Nat.pow_succ]
  refine ⟨by omega, ?_⟩
  rw [← h, show v / 256 * (256 ^ k * 256) = 256 * (v / 256) * 256 ^ k by rw [Nat.mul_comm (256 ^ k), ← Nat.mul_assoc, Nat.mul_comm (v / 256)], Nat.add_assoc, ← Nat.add_mul, Nat.add_comm (v % 256), h1]
theorem dg_top {D d k : Nat} (hD : D < 256 ^ k) (hd : d < 256) : dg 256 (D + d * 256 ^ k) k = d := by
  unfold dg
  rw [Nat.add_mul_div_right _ _ (Nat.pow_pos (by decide)), Nat.div_eq_of_lt hD, Nat.zero_add, Nat.mod_eq_of_lt hd]
theorem dg_below {D d k j : Nat} (hj : j < k) : dg 256 (D + d * 256 ^ k) j = dg 256 D j := by
  rw [Nat.add_comm, dg_low (by decide) _ _ _ _ hj]
theorem add_step256 {D c x y i : Nat} (h : D + c * 256 ^ i = x % 256 ^ i + y % 256 ^ i) : D + (c + dg 256 x i + dg 256 y i) * 256 ^ i = x % 256 ^ (i + 1) + y % 256 ^ (i + 1) := by
  rw [mod_succ, mod_succ, Nat.add_mul, Nat.add_mul]
  omega
end ScalarNum
namespace Go.Proofs.YteijccjdejjbjaaDoor
open Go.RowKit Go.Shelf ScalarNum

theorem yl_lay {k D d : Nat} (hD : D < 256 ^ k) (hd : d < 256) : yl k D ++ [.int .u8 ((d : Nat) : Int)] = yl (k + 1) (D + d * 256 ^ k) := by
  have e1 : yl k D = yl k (D + d * 256 ^ k) := by
    unfold yl ds
    congr 1
    apply List.map_congr_left
    intro j hj
    rw [dg_below (by simpa using hj)]
  rw [e1]
  have := yl_succ k (D + d * 256 ^ k)
  rwa [dg_top hD hd] at this
theorem u8_of (s : Nat) : IntKind.u8.wrap ((s % 256 : Nat) : Int) = ((s % 256 : Nat) : Int) := by rw [IntKind.wrap_u8]; omega

theorem sumb (c xi yi : Nat) (hc : c ≤ 1) (hx : xi < 256) (hy : yi < 256) : (c : Int) + (xi : Int) + (yi : Int) = ((c + xi + yi : Nat) : Int) ∧ c + xi + yi < 513 ∧ (c + xi + yi) / 256 ≤ 1 := by omega

structure OX (w0 : World) (v : Value) (k D : Nat) (wr : World) : Prop where
  own : wr.ownsRow w0.heap.size 5 1 v k (yl k D)
  sl : k = 0 ∨ ∃ g cap, v = .slice (some ⟨g, 0, none⟩) k cap
  lt : D < 256 ^ k
  gw : Grown w0 wr

set_option maxRecDepth 100000 in
set_option maxHeartbeats 2000000 in
theorem added_num (ga na ca x gb nb cb y : Nat) (hna : na < 1048576) (hle : nb ≤ na) (hx : x < 256 ^ na) (hy : y < 256 ^ nb) (w : World) (ha : w.rangeAt ga 0 (yl na x)) (hb : w.rangeAt gb 0 (yl nb y)) :
    Calls Tryd.prog 53 #[.slice (some ⟨ga, 0, none⟩) na ca, .slice (some ⟨gb, 0, none⟩) nb cb] w fun e w' => (∃ v, e = .returned v ∧ SL (na + 1) (x + y) v w') ∧ Grown w w' := by
  obtain ⟨ii, hi1, hi2, hi3, hi4⟩ := hI8
  have HA := Hid.of ha
  have HB := Hid.of hb
  have HX := Hid.of hx
  have HY := Hid.of hy
  clear ha hb hx hy
  go_enter Tryd.func53, Tryd.ntmps53
  go_wp2
  go_loopw [5, 6, 7] (fun v5 v6 v7 wr => ∃ i D c : Nat, v7 = .int .i64 (i : Int) ∧ v6 = .int .i64 (c : Int) ∧ i ≤ na ∧ c ≤ 1 ∧ D + c * 256 ^ i = x % 256 ^ i + y % 256 ^ i ∧ OX w v5 i D wr) (fun _ _ v7 _ => na - (intOf v7).toNat)
  case atStart => exact ⟨0, 0, 0, rfl, rfl, Nat.zero_le _, by decide, by simp [Nat.mod_one], World.ownsRow_nil _ _ _ _, .inl rfl, by decide, Grown.refl _⟩
  case round =>
    obtain ⟨i, D, c, rfl, rfl, hi, hc, he, hO⟩ := hrel
    have HO := Hid.of hO
    clear hO
    by_cases hlt : i < na
    · have b1 : (i : Int) < (na : Int) := Int.ofNat_lt.2 hlt
      have d1 : wr.cell? ⟨ga, i, none⟩ = some (.int .u8 (dg 256 x i : Nat)) := by
        have := rangeAt_grown HA.out HO.out.gw i _ (yl_get na x i hlt); rwa [Nat.zero_add] at this
      have hxi : dg 256 x i < 256 := dg_lt (by decide)
      have hyi : dg 256 y i < 256 := dg_lt (by decide)
      have hst := add_step256 he
      have e1 := w64s _ hxi
      by_cases hlb : i < nb
      · have b2 : (i : Int) < (nb : Int) := Int.ofNat_lt.2 hlb
        have d2 : wr.cell? ⟨gb, i, none⟩ = some (.int .u8 (dg 256 y i : Nat)) := by
          have := rangeAt_grown HB.out HO.out.gw i _ (yl_get nb y i hlb); rwa [Nat.zero_add] at this
        have e2 := w64s _ hyi
        generalize dg 256 x i = xi at *
        generalize dg 256 y i = yi at *
        obtain ⟨es, hs2, hs3⟩ := sumb c xi yi hc hxi hyi
        generalize c + xi + yi = s at *
        have q1 := tmods s
        have q2 := tdivs s
        have q3 := u8_of s
        have HL := Hid.of (And.intro hst hs3)
        clear hst he hxi hyi hs3
        go_wp2_with (with_reducible show wpList _ _ _ ({ dst := _, op := Op.call { callee := Callee.builtin Builtin.append, args := _, argTypes := _ }, type := _, pos := _, after := _, guard := _ } :: _) _ _; refine Shut.out ?_)
        show wpList _ _ _ _ _ _
        rw [show ((s : Int) % 256) = ((s % 256 : Nat) : Int) from by simp]
        refine wpList_append_one (W0 := w) rfl _ _ rfl Tryd.underlying64 hi1 hi2 hi3 hi4 rfl _ i (yl i D) rfl (HO.out.own.alloc _) ⟨wr.heap.size, 0, none⟩ 1 (.int .u8 ((s % 256 : Nat) : Int)) rfl (by simp [Addr.add]) rfl (Nat.lt_trans hlt (Nat.lt_trans hna (by decide))) (Grown.alloc HO.out.gw _ _) ?_
        intro v' w' ho' hgr hv' hg'
        rw [yl_lay HO.out.lt (Nat.mod_lt _ (by decide))] at ho'
        obtain ⟨l1, l2⟩ := lay_step HO.out.lt HL.out.1
        have HO' := Hid.of (show OX w v' (i + 1) (D + s % 256 * 256 ^ i) w' from ⟨ho', .inr hv', l1, hg'⟩)
        have HL' := Hid.of (And.intro l2 HL.out.2)
        clear ho' hgr hv' hg' l1 l2 HO HL d1 d2
        simp only [Act.put, List.setIfInBounds_toArray, List.set_cons_zero, List.set_cons_succ]
        go_wp2
        go_roundw
        case rel => exact ⟨i + 1, D + s % 256 * 256 ^ i, s / 256, by go_num, by simp, hlt, HL'.out.2, HL'.out.1, HO'.out⟩
        case measure => simp [intOf]; omega
      · have b2 : ¬ (i : Int) < (nb : Int) := fun h => hlb (Int.ofNat_lt.1 h)
        have hy0 : dg 256 y i = 0 := dg_beyond HY.out (Nat.le_of_not_lt hlb)
        rw [hy0] at hst hyi
        generalize dg 256 x i = xi at *
        obtain ⟨es, hs2, hs3⟩ := sumb c xi 0 hc hxi hyi
        rw [Nat.add_zero] at hst hs2 hs3
        rw [show ((0 : Nat) : Int) = 0 from rfl, Int.add_zero, Nat.add_zero] at es
        generalize c + xi = s at *
        have q1 := tmods s
        have q2 := tdivs s
        have q3 := u8_of s
        have HL := Hid.of (And.intro hst hs3)
        clear hst he hxi hyi hs3 hy0
        go_wp2_with (with_reducible show wpList _ _ _ ({ dst := _, op := Op.call { callee := Callee.builtin Builtin.append, args := _, argTypes := _ }, type := _, pos := _, after := _, guard := _ } :: _) _ _; refine Shut.out ?_)
        show wpList _ _ _ _ _ _
        rw [show ((s : Int) % 256) = ((s % 256 : Nat) : Int) from by simp]
        refine wpList_append_one (W0 := w) rfl _ _ rfl Tryd.underlying64 hi1 hi2 hi3 hi4 rfl _ i (yl i D) rfl (HO.out.own.alloc _) ⟨wr.heap.size, 0, none⟩ 1 (.int .u8 ((s % 256 : Nat) : Int)) rfl (by simp [Addr.add]) rfl (Nat.lt_trans hlt (Nat.lt_trans hna (by decide))) (Grown.alloc HO.out.gw _ _) ?_
        intro v' w' ho' hgr hv' hg'
        rw [yl_lay HO.out.lt (Nat.mod_lt _ (by decide))] at ho'
        obtain ⟨l1, l2⟩ := lay_step HO.out.lt HL.out.1
        have HO' := Hid.of (show OX w v' (i + 1) (D + s % 256 * 256 ^ i) w' from ⟨ho', .inr hv', l1, hg'⟩)
        have HL' := Hid.of (And.intro l2 HL.out.2)
        clear ho' hgr hv' hg' l1 l2 HO HL d1
        simp only [Act.put, List.setIfInBounds_toArray, List.set_cons_zero, List.set_cons_succ]
        go_wp2
        go_roundw
        case rel => exact ⟨i + 1, D + s % 256 * 256 ^ i, s / 256, by go_num, by simp, hlt, HL'.out.2, HL'.out.1, HO'.out⟩
        case measure => simp [intOf]; omega
    · have hin : i = na := by omega
      subst hin
      have b1 : ¬ (i : Int) < (nb : Int) := fun h => by have := Int.ofNat_lt.1 h; omega
      rw [Nat.mod_eq_of_lt HX.out, Nat.mod_eq_of_lt (Nat.lt_of_lt_of_le HY.out (Nat.pow_le_pow_right (by decide) hle))] at he
      have q3 : IntKind.u8.wrap (c : Int) = (c : Int) := by rw [IntKind.wrap_u8]; omega
      have HE := Hid.of he
      clear he
      go_wp2_with (with_reducible show wpList _ _ _ ({ dst := _, op := Op.call { callee := Callee.builtin Builtin.append, args := _, argTypes := _ }, type := _, pos := _, after := _, guard := _ } :: _) _ _; refine Shut.out ?_)
      show wpList _ _ _ _ _ _
      try rw [show ((c : Int) % 256) = (c : Int) from by omega]
      refine wpList_append_one (W0 := w) rfl _ _ rfl Tryd.underlying64 hi1 hi2 hi3 hi4 rfl _ i (yl i D) rfl (HO.out.own.alloc _) ⟨wr.heap.size, 0, none⟩ 1 (.int .u8 (c : Int)) rfl (by simp [Addr.add]) rfl (Nat.lt_trans hna (by decide)) (Grown.alloc HO.out.gw _ _) ?_
      intro v' w' ho' hgr hv' hg'
      rw [yl_lay HO.out.lt (show c < 256 by omega), HE.out] at ho'
      have HO' := Hid.of (And.intro ho' (And.intro hv' hg'))
      clear ho' hgr hv' hg' HO HE
      simp only [Act.put, List.setIfInBounds_toArray, List.set_cons_zero, List.set_cons_succ]
      go_wp2
      go_ret
      obtain ⟨ho', ⟨g, cap, rfl⟩, hg'⟩ := HO'.out
      exact ⟨⟨_, rfl, g, cap, rfl, owns_range ho'⟩, hg'⟩
end Go.Proofs.YteijccjdejjbjaaDoor
namespace Go.Proofs.YteijccjdejjbjaaDoor
open Go.RowKit Go.Shelf ScalarNum

theorem OX.drewN {w0 : World} {v : Value} {k D : Nat} {wr : World} (h : OX w0 v k D wr) (n : Nat) : OX w0 v k D (wr.drewN n) := ⟨h.own, h.sl, h.lt, h.gw⟩
theorem mulb (a b : Nat) (ha : a < 256) (hb : b < 256) : a * b ≤ 65025 := Nat.mul_le_mul (Nat.le_of_lt_succ (n := 255) ha) (Nat.le_of_lt_succ (n := 255) hb)
theorem carry_le (s : Nat) (h : s ≤ 1000000 + 32 * 65025) : s / 256 ≤ 1000000 := by omega
theorem prod_end {D c P : Nat} (h : D + c * 256 ^ 64 = P) (hD : D < 256 ^ 64) (hP : P < M * M) : D = P := by
  have e : (256 : Nat) ^ 64 = M * M := by decide
  rw [e] at h hD
  rcases c with _ | c
  · omega
  · exfalso
    have : M * M ≤ (c + 1) * (M * M) := Nat.le_mul_of_pos_left _ (by omega)
    omega

set_option maxRecDepth 100000 in
set_option maxHeartbeats 2000000 in
theorem product_num (ga ca x gb cb y : Nat) (hx : x < M) (hy : y < M) (w : World) (ha : w.rangeAt ga 0 (yl 32 x)) (hb : w.rangeAt gb 0 (yl 32 y)) :
    Calls Tryd.prog 51 #[.slice (some ⟨ga, 0, none⟩) 32 ca, .slice (some ⟨gb, 0, none⟩) 32 cb] w fun e w' => (∃ v, e = .returned v ∧ SL 64 (x * y) v w') ∧ Grown w w' := by
  obtain ⟨ii, hi1, hi2, hi3, hi4⟩ := hI8
  have HA := Hid.of ha
  have HB := Hid.of hb
  have HXY := Hid.of (And.intro hx hy)
  have HY0 := Hid.of (fun j (h : 32 ≤ j) => dg_beyond (n := 32) (y := y) (j := j) (by rw [show (256 : Nat) ^ 32 = M from by decide]; exact hy) h)
  clear ha hb hx hy
  go_enter Tryd.func51, Tryd.ntmps51
  go_wp2
  go_loopw [5, 6, 7] (fun v5 v6 v7 wr => ∃ k D c : Nat, v7 = .int .i64 (k : Int) ∧ v6 = .int .i64 (c : Int) ∧ k ≤ 64 ∧ c ≤ 1000000 ∧ D + c * 256 ^ k = us x y 32 k ∧ OX w v5 k D wr) (fun _ _ v7 _ => 64 - (intOf v7).toNat)
  case atStart => exact ⟨0, 0, 0, rfl, rfl, by decide, by decide, rfl, World.ownsRow_nil _ _ _ _, .inl rfl, by decide, Grown.refl _⟩
  case round =>
    obtain ⟨k, D, c, rfl, rfl, hk, hc, he, hO⟩ := hrel
    have HO := Hid.of hO
    have HE := Hid.of he
    clear hO he
    by_cases hlt : k < 64
    · have b1 : (k : Int) < 64 := Int.ofNat_lt.2 hlt
      go_wp2
      go_loopw [8, 9] (fun v8 v9 wr => ∃ i s : Nat, v9 = .int .i64 (i : Int) ∧ v8 = .int .i64 (s : Int) ∧ i ≤ 32 ∧ i ≤ k + 1 ∧ s = c + cs x y i k ∧ OX w u5 k D wr) (fun _ v9 _ => 32 - (intOf v9).toNat)
      case atStart => exact ⟨0, c, rfl, rfl, by decide, Nat.zero_le _, rfl, HO.out⟩
      case round =>
        obtain ⟨i, s, rfl, rfl, hi, hik, hs, hO2⟩ := hrel
        have HO2 := Hid.of hO2
        clear HO hO2
        have hcs := cs_le x y k i
        have hs3 : s ≤ 1000000 + 32 * 65025 := by
          rw [hs]; exact Nat.add_le_add hc (Nat.le_trans hcs (Nat.mul_le_mul_right _ hi))
        by_cases h1 : i < 32
        · have b2 : (i : Int) < 32 := Int.ofNat_lt.2 h1
          by_cases h2 : i ≤ k
          · have b3 : (i : Int) ≤ (k : Int) := Int.ofNat_le.2 h2
            have hnx := cs_next (x := x) (y := y) h2
            have d1 : wr.cell? ⟨ga, i, none⟩ = some (.int .u8 (dg 256 x i : Nat)) := by
              have := rangeAt_grown HA.out HO2.out.gw i _ (yl_get 32 x i h1); rwa [Nat.zero_add] at this
            have ekn : (k : Int) - (i : Int) = ((k - i : Nat) : Int) := by omega
            have hki : k - i < 64 := by omega
            by_cases h3 : k - i < 32
            · have d2 : wr.cell? ⟨gb, k - i, none⟩ = some (.int .u8 (dg 256 y (k - i) : Nat)) := by
                have := rangeAt_grown HB.out HO2.out.gw (k - i) _ (yl_get 32 y (k - i) h3); rwa [Nat.zero_add] at this
              have hxi : dg 256 x i < 256 := dg_lt (by decide)
              have hyi : dg 256 y (k - i) < 256 := dg_lt (by decide)
              have e1 := w64s _ hxi
              have e2 := w64s _ hyi
              have hm := mulb _ _ hxi hyi
              have HN := Hid.of (show s + dg 256 x i * dg 256 y (k - i) = c + cs x y (i + 1) k by rw [hnx, hs, Nat.add_assoc])
              clear hnx hs hcs
              generalize dg 256 x i = xi at *
              generalize dg 256 y (k - i) = yi at *
              have b4 : ((k - i : Nat) : Int) < 32 := Int.ofNat_lt.2 h3
              have em : (xi : Int) * (yi : Int) = ((xi * yi : Nat) : Int) := by simp
              generalize xi * yi = pr at *
              generalize k - i = kj at *
              go_wp2
              go_quiet (fail)
              go_wp2
              go_roundw
              case rel => exact ⟨i + 1, s + pr, by go_num, by simp, h1, Nat.succ_le_succ h2, HN.out, HO2.out.drewN _⟩
              case measure => simp [intOf]; omega
            · have b4 : ¬ ((k - i : Nat) : Int) < 32 := fun h => h3 (Int.ofNat_lt.1 h)
              have HN := Hid.of (show s = c + cs x y (i + 1) k by rw [hnx, hs, HY0.out (k - i) (Nat.le_of_not_lt h3), Nat.mul_zero, Nat.add_zero])
              clear hnx hs hcs d1
              generalize k - i = kj at *
              go_wp2
              go_roundw
              case rel => exact ⟨i + 1, s, by go_num, rfl, h1, Nat.succ_le_succ h2, HN.out, HO2.out⟩
              case measure => simp [intOf]; omega
          · have b3 : ¬ (i : Int) ≤ (k : Int) := fun h => h2 (Int.ofNat_le.1 h)
            have hs9 : s = c + cs x y 32 k := by
              have hik2 : i = k + 1 := by omega
              rw [hs, hik2, cs_stop x y k 32 (by omega)]
            have q1 := tmods s
            have q2 := tdivs s
            have q3 := u8_of s
            have hc2 := carry_le s hs3
            have HL := Hid.of (show D + s * 256 ^ k = us x y 32 (k + 1) by rw [hs9, Nat.add_mul]; simp only [us]; rw [← HE.out]; omega)
            clear hs hs9 hcs
            go_wp2_with (with_reducible show wpList _ _ _ ({ dst := _, op := Op.call { callee := Callee.builtin Builtin.append, args := _, argTypes := _ }, type := _, pos := _, after := _, guard := _ } :: _) _ _; refine Shut.out ?_)
            show wpList _ _ _ _ _ _
            rw [show ((s : Int) % 256) = ((s % 256 : Nat) : Int) from by simp]
            refine wpList_append_one (W0 := w) rfl _ _ rfl Tryd.underlying64 hi1 hi2 hi3 hi4 rfl _ k (yl k D) rfl (HO2.out.own.alloc _) ⟨wr.heap.size, 0, none⟩ 1 (.int .u8 ((s % 256 : Nat) : Int)) rfl (by simp [Addr.add]) rfl (Nat.lt_trans hlt (by decide)) (Grown.alloc HO2.out.gw _ _) ?_
            intro v' w' ho' hgr hv' hg'
            rw [yl_lay HO2.out.lt (Nat.mod_lt _ (by decide))] at ho'
            obtain ⟨l1, l2⟩ := lay_step HO2.out.lt HL.out
            have HO' := Hid.of (show OX w v' (k + 1) (D + s % 256 * 256 ^ k) w' from ⟨ho', .inr hv', l1, hg'⟩)
            have HL' := Hid.of (And.intro l2 hc2)
            clear ho' hgr hv' hg' l1 l2 HO2 HL hc2 HE
            simp only [Act.put, List.setIfInBounds_toArray, List.set_cons_zero, List.set_cons_succ]
            go_wp2
            go_roundw
            case rel => exact ⟨k + 1, D + s % 256 * 256 ^ k, s / 256, by go_num, by simp, hlt, HL'.out.2, HL'.out.1, HO'.out⟩
            case measure => simp [intOf]; omega
        · have b2 : ¬ (i : Int) < 32 := fun h => h1 (Int.ofNat_lt.1 h)
          have hs9 : s = c + cs x y 32 k := by
            have hi32 : i = 32 := by omega
            rw [hs, hi32]
          have q1 := tmods s
          have q2 := tdivs s
          have q3 := u8_of s
          have hc2 := carry_le s hs3
          have HL := Hid.of (show D + s * 256 ^ k = us x y 32 (k + 1) by rw [hs9, Nat.add_mul]; simp only [us]; rw [← HE.out]; omega)
          clear hs hs9 hcs
          go_wp2_with (with_reducible show wpList _ _ _ ({ dst := _, op := Op.call { callee := Callee.builtin Builtin.append, args := _, argTypes := _ }, type := _, pos := _, after := _, guard := _ } :: _) _ _; refine Shut.out ?_)
          show wpList _ _ _ _ _ _
          rw [show ((s : Int) % 256) = ((s % 256 : Nat) : Int) from by simp]
          refine wpList_append_one (W0 := w) rfl _ _ rfl Tryd.underlying64 hi1 hi2 hi3 hi4 rfl _ k (yl k D) rfl (HO2.out.own.alloc _) ⟨wr.heap.size, 0, none⟩ 1 (.int .u8 ((s % 256 : Nat) : Int)) rfl (by simp [Addr.add]) rfl (Nat.lt_trans hlt (by decide)) (Grown.alloc HO2.out.gw _ _) ?_
          intro v' w' ho' hgr hv' hg'
          rw [yl_lay HO2.out.lt (Nat.mod_lt _ (by decide))] at ho'
          obtain ⟨l1, l2⟩ := lay_step HO2.out.lt HL.out
          have HO' := Hid.of (show OX w v' (k + 1) (D + s % 256 * 256 ^ k) w' from ⟨ho', .inr hv', l1, hg'⟩)
          have HL' := Hid.of (And.intro l2 hc2)
          clear ho' hgr hv' hg' l1 l2 HO2 HL hc2 HE
          simp only [Act.put, List.setIfInBounds_toArray, List.set_cons_zero, List.set_cons_succ]
          go_wp2
          go_roundw
          case rel => exact ⟨k + 1, D + s % 256 * 256 ^ k, s / 256, by go_num, by simp, hlt, HL'.out.2, HL'.out.1, HO'.out⟩
          case measure => simp [intOf]; omega
    · have hk4 : k = 64 := by omega
      subst hk4
      have HE2 := Hid.of (prod_end (HE.out.trans (us_mul HXY.out.1 HXY.out.2)) HO.out.lt (Nat.mul_lt_mul'' HXY.out.1 HXY.out.2))
      have hsl := HO.out.sl
      obtain ⟨g, cap, rfl⟩ := hsl.resolve_left (by decide)
      clear hsl HE hk hlt hc
      go_wp2
      go_ret
      have hr := owns_range HO.out.own
      rw [HE2.out] at hr
      exact ⟨⟨_, rfl, g, cap, rfl, hr⟩, HO.out.gw⟩
end Go.Proofs.YteijccjdejjbjaaDoor
