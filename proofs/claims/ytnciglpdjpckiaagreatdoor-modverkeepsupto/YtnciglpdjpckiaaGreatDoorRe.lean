import Derived.Test.YtnciglpdjpckiaaGreatDoorRd
namespace Go.Proofs.YtnciglpdjpckiaaGreatDoor
open Go.RowKit Go.Shelf TextNum ModNum
theorem result_t2c2t {P : Program} {fn : Func} {p0 p1 q q1 q2 : Tmp} {T T1 : TypeId} (h : fn.results = #[.tmp p0, .tmp p1, .cell q T, .cell q1 T1, .tmp q2]) (tmps : Array Value) (w : World) (b b1 : Nat) (cs cs1 : List Value) (u0 u1 v : Value) {d d1 : TypeDesc}
    (h0 : tmps.getD p0 undef = u0) (h1 : tmps.getD p1 undef = u1) (hp : tmps.getD q undef = .pointer (some ⟨b, 0, none⟩)) (hp1 : tmps.getD q1 undef = .pointer (some ⟨b1, 0, none⟩)) (hv : tmps.getD q2 undef = v) (hc : w.rangeAt b 0 cs) (hu : P.underlying T = some d) (hd : d.isRow = true) (hi : (P.info? T).map (·.size) = some cs.length)
    (hc1 : w.rangeAt b1 0 cs1) (hu1 : P.underlying T1 = some d1) (hd1 : d1.isRow = true) (hi1 : (P.info? T1).map (·.size) = some cs1.length) : (results fn tmps).run P w = .ok (.tuple #[u0, u1, .agg cs.toArray, .agg cs1.toArray, v]) w := by
  have h0' : tmps[p0]?.getD undef = u0 := by simpa using h0
  have h1' : tmps[p1]?.getD undef = u1 := by simpa using h1
  have hp' : tmps[q]?.getD undef = .pointer (some ⟨b, 0, none⟩) := by simpa using hp
  have hp1' : tmps[q1]?.getD undef = .pointer (some ⟨b1, 0, none⟩) := by simpa using hp1
  have hv' : tmps[q2]?.getD undef = v := by simpa using hv
  simp [results, h, h0', h1', hp', hp1', hv', asAddr, run_loadVar_mid w b 0 T cs _ hc hu hd hi, run_loadVar_mid w b1 0 T1 cs1 _ hc1 hu1 hd1 hi1]
abbrev GOM : List UInt8 := [47, 103, 111, 46, 109, 111, 100]
/-- what ParseRecord says -/
structure Prc where
  p : List UInt8
  v : List UInt8
  a : List UInt8
  b : List UInt8
  e : Int
def prc (s : List UInt8) : Prc := match two s with
  | none => ⟨[], [], Z32, Z32, 115⟩
  | some (x, y) => if y.1 ≠ x.1 ∨ y.2.1 ≠ x.2.1 ++ GOM then ⟨[], [], Z32, Z32, 115⟩
    else if (rdw x.1 x.2.1 x.2.2 y.2.2).2.2 ≠ 0 then ⟨[], [], Z32, Z32, (rdw x.1 x.2.1 x.2.2 y.2.2).2.2⟩
    else ⟨x.1, x.2.1, (rdw x.1 x.2.1 x.2.2 y.2.2).1, (rdw x.1 x.2.1 x.2.2 y.2.2).2.1, 0⟩
abbrev prcV (q : Prc) : Value := .tuple #[vs q.p, vs q.v, .agg (cb q.a).toArray, .agg (cb q.b).toArray, .int .i64 q.e]
theorem tw_sub {l : List UInt8} {x : List UInt8 × List UInt8 × List UInt8} (h : tw l = some x) : pcs 32 l = [x.1, x.2.1, x.2.2] ∧ x.1 ≠ [] ∧ x.2.1 ≠ [] ∧ x.2.2 ≠ [] := by
  unfold tw at h
  split at h
  · rename_i a b c hp
    split at h
    · cases h
    · rename_i hn
      have := (Option.some.inj h).symm
      subst this
      exact ⟨hp, fun e => hn (.inl e), fun e => hn (.inr (.inl e)), fun e => hn (.inr (.inr e))⟩
  · cases h
theorem two_sub {s : List UInt8} {x y : List UInt8 × List UInt8 × List UInt8} (h : two s = some (x, y)) : ∃ a b, s.length ≤ 1024 ∧ lnE s = 0 ∧ linesOf s = [a, b] ∧ tw a = some x ∧ tw b = some y := by
  unfold two at h
  split at h
  · cases h
  · rename_i hn
    split at h
    · rename_i a b hl
      split at h
      · rename_i x' y' hx hy
        have := Option.some.inj h
        injection this with e1 e2
        subst e1 e2
        refine ⟨a, b, by have := fun h => hn (.inl h); omega, Decidable.byContradiction fun h => hn (.inr h), hl, hx, hy⟩
      · cases h
    · cases h
theorem two_len {s : List UInt8} {x y : List UInt8 × List UInt8 × List UInt8} (h : two s = some (x, y)) : x.2.1.length ≤ 1024 := by
  obtain ⟨a, b, h1, _, h2, h3, _⟩ := two_sub h
  have h4 := lines_sub s a (by rw [h2]; simp)
  have h5 := pcs_sub (c := 32) (l := a) (p := x.2.1) (by rw [(tw_sub h3).1]; simp)
  omega
theorem rdw_len (p v s t : List UInt8) : (rdw p v s t).1.length = 32 ∧ (rdw p v s t).2.1.length = 32 := by
  unfold rdw
  split
  · exact ⟨rfl, rfl⟩
  · split
    · exact ⟨psm_len _, rfl⟩
    · exact ⟨psm_len _, psm_len _⟩
/-- what the last return reads beside the two rows -/
def PRR (w : World) (b : Nat) (x0 x1 : Value) (w2 : World) : Prop := Up w w2 ∧ w2.cell? ⟨b, 0, none⟩ = some x0 ∧ w2.cell? ⟨b, 1, none⟩ = some x1
theorem PRR.set {w : World} {b c : Nat} {x0 x1 : Value} (hc : w.heap.size ≤ c) (hne : b ≠ c) (xs : List Value) {w2 : World} (h : Up w w2 ∧ w2.cell? ⟨b, 0, none⟩ = some x0 ∧ w2.cell? ⟨b, 1, none⟩ = some x1) : Up w (w2.setCells c 0 xs) ∧ (w2.setCells c 0 xs).cell? ⟨b, 0, none⟩ = some x0 ∧ (w2.setCells c 0 xs).cell? ⟨b, 1, none⟩ = some x1 :=
  ⟨h.1.by (grown_sets c _ _ _) (fun g hg => by injection hg with hg; omega), (World.cell?_setCells_out c _ _ _ _ (fun e => absurd e hne)).trans h.2.1, (World.cell?_setCells_out c _ _ _ _ (fun e => absurd e hne)).trans h.2.2⟩
set_option maxRecDepth 100000 in
set_option maxHeartbeats 2000000 in
theorem ParseRecord_walk (s : ByteArray) (w : World) (hG : GR w) (hT : TabL w) : Calls Tryz.prog 34 #[.string s] w fun e w' => e = .returned (prcV (prc s.data.toList)) ∧ Up w w' := by
  have HL := fun w' => fun (u : Up w w') => Hid.of (twoLines_walk s w' (hG.up u).toGM)
  have HRd := fun (p v s p' v' t : ByteArray) w' => fun (u : Up w w') => Hid.of (readWords_walk p v s p' v' t w' (hG.up u) (hT.below hT.lt u))
  have HP : Hid (prc s.data.toList = match two s.data.toList with
  | none => ⟨[], [], Z32, Z32, 115⟩
  | some (x, y) => if y.1 ≠ x.1 ∨ y.2.1 ≠ x.2.1 ++ GOM then ⟨[], [], Z32, Z32, 115⟩
    else if (rdw x.1 x.2.1 x.2.2 y.2.2).2.2 ≠ 0 then ⟨[], [], Z32, Z32, (rdw x.1 x.2.1 x.2.2 y.2.2).2.2⟩
    else ⟨x.1, x.2.1, (rdw x.1 x.2.1 x.2.2 y.2.2).1, (rdw x.1 x.2.1 x.2.2 y.2.2).2.1, 0⟩) := rfl
  clear hG hT
  have HA2 : Hid (At ((w.alloc (.cells (cb Z32).toArray 32)).alloc (.cells (cb Z32).toArray 32)) (w.heap.size + 1) 32 (cb Z32)) := by
    have := at_new (w.alloc (.cells (cb Z32).toArray 32)) 32 (cb Z32)
    rw [alloc_size] at this
    exact this
  have HA1 : Hid (At ((w.alloc (.cells (cb Z32).toArray 32)).alloc (.cells (cb Z32).toArray 32)) w.heap.size 32 (cb Z32)) := At.up (at_new w 32 (cb Z32)) ((Up.refl _).alloc _)
  have HU : Hid (Up w ((w.alloc (.cells (cb Z32).toArray 32)).alloc (.cells (cb Z32).toArray 32))) := ((Up.refl w).alloc _).alloc _
  go_enter Tryz.func34, Tryz.ntmps34
  go_wp2_with fail
  rw [zlit]
  generalize (w.alloc (.cells (cb Z32).toArray 32)).alloc (.cells (cb Z32).toArray 32) = W0 at *
  refine (HL _ HU.out).out.mono ?_
  rintro e w1 ⟨x, y, rfl, hxy, u1⟩
  have HB1 := Hid.of (HA1.out.up u1)
  have HB2 := Hid.of (HA2.out.up u1)
  have HU1 := Hid.of (HU.out.trans u1)
  have HXY := Hid.of hxy
  have HLt := Hid.of (show w.heap.size + 1 < w1.heap.size from lt_of_at HB2.out)
  clear hxy u1 HA1 HA2 HU HL
  dsimp only
  cases ht : two s.data.toList with
  | none =>
    rw [show (none : Option ((List UInt8 × List UInt8 × List UInt8) × (List UInt8 × List UInt8 × List UInt8))).isSome = false from rfl]
    have HN := Hid.of (show prc s.data.toList = ⟨[], [], Z32, Z32, 115⟩ from HP.out.trans (by rw [ht]))
    clear ht HXY HP HRd
    go_wp2_with (with_reducible show wpList _ _ _ ({ dst := _, op := Op.store 32 _ _, type := _, pos := _, after := _, guard := _ } :: _) _ _; refine Shut.out ?_)
    show wpList _ _ _ _ _ _
    refine wpList_store_at rfl _ _ _ rfl w.heap.size (HB1.out.up (((Up.refl w1).alloc _).alloc _)) (cb Z32) rfl rfl rfl (by kernel_rfl) (cb_all _) fun x1 hx1 hg1 => ?_
    have HX1 := Hid.of hx1
    have HX2 := Hid.of (At.by (HB2.out.up (((Up.refl w1).alloc _).alloc _)) hg1 (by intro h; injection h with h; omega))
    have HXU := Hid.of (Up.by ((HU1.out.alloc _).alloc _) hg1 (fun g hg => by injection hg with hg; omega))
    clear hx1 hg1
    simp only [Act.put]
    go_wp2_with (with_reducible show wpList _ _ _ ({ dst := _, op := Op.store 32 _ _, type := _, pos := _, after := _, guard := _ } :: _) _ _; refine Shut.out ?_)
    show wpList _ _ _ _ _ _
    refine wpList_store_at rfl _ _ _ rfl (w.heap.size + 1) HX2.out (cb Z32) rfl rfl rfl (by kernel_rfl) (cb_all _) fun x2 hx2 hg2 => ?_
    have HY2 := Hid.of hx2
    have HY1 := Hid.of (HX1.out.by hg2 (by intro h; injection h with h; omega))
    have HYU := Hid.of (HXU.out.by hg2 (fun g hg => by injection hg with hg; omega))
    clear hx2 hg2 HX1 HX2 HXU
    simp only [Act.put]
    go_wp2
    refine bodyPost_ret (result_t2c2t Tryz.results34 _ _ _ _ (cb Z32) (cb Z32) _ _ _ rfl rfl rfl rfl rfl HY1.out.range Tryz.underlying32 rfl (by kernel_rfl) HY2.out.range Tryz.underlying32 rfl (by kernel_rfl)) rfl ?_
    rw [HN.out]
    exact ⟨rfl, HYU.out⟩
  | some q =>
    obtain ⟨x', y'⟩ := q
    have hq := HXY.out _ ht
    injection hq with e1 e2
    subst e1 e2
    rw [show (some (x', y') : Option ((List UInt8 × List UInt8 × List UInt8) × (List UInt8 × List UInt8 × List UInt8))).isSome = true from rfl]
    have hvl := two_len ht
    have HP2 := Hid.of (show prc s.data.toList = if y'.1 ≠ x'.1 ∨ y'.2.1 ≠ x'.2.1 ++ GOM then ⟨[], [], Z32, Z32, 115⟩
    else if (rdw x'.1 x'.2.1 x'.2.2 y'.2.2).2.2 ≠ 0 then ⟨[], [], Z32, Z32, (rdw x'.1 x'.2.1 x'.2.2 y'.2.2).2.2⟩
    else ⟨x'.1, x'.2.1, (rdw x'.1 x'.2.1 x'.2.2 y'.2.2).1, (rdw x'.1 x'.2.1 x'.2.2 y'.2.2).2.1, 0⟩ from HP.out.trans (by rw [ht]))
    clear ht HXY HP
    have hqp : ((⟨y'.1.toArray⟩ : ByteArray).toList == (⟨x'.1.toArray⟩ : ByteArray).toList) = decide (y'.1 = x'.1) := by
      rw [Go.Lib.toList_data, Go.Lib.toList_data, Bool.eq_iff_iff]
      simp
    have hqv : ((⟨y'.2.1.toArray⟩ : ByteArray).toList == ((⟨x'.2.1.toArray⟩ : ByteArray) ++ ⟨GOM.toArray⟩).toList) = decide (y'.2.1 = x'.2.1 ++ GOM) := by
      rw [Go.Lib.toList_data, Go.Lib.toList_data, Bool.eq_iff_iff, ba_app]
      simp
    have hsz : (⟨x'.2.1.toArray⟩ : ByteArray).size ≤ 1024 := by rw [str_len]; exact hvl
    have HRW : ∀ w', Up w w' → Hid (Calls Tryz.prog 62 #[.agg #[.string ⟨x'.1.toArray⟩, .string ⟨x'.2.1.toArray⟩, .string ⟨x'.2.2.toArray⟩], .agg #[.string ⟨y'.1.toArray⟩, .string ⟨y'.2.1.toArray⟩, .string ⟨y'.2.2.toArray⟩]] w' fun e w'' => e = .returned (.tuple #[.agg (cb (rdw x'.1 x'.2.1 x'.2.2 y'.2.2).1).toArray, .agg (cb (rdw x'.1 x'.2.1 x'.2.2 y'.2.2).2.1).toArray, .int .i64 (rdw x'.1 x'.2.1 x'.2.2 y'.2.2).2.2]) ∧ Up w' w'') := fun w' u => HRd _ _ _ _ _ _ w' u
    obtain ⟨rl1, rl2⟩ := rdw_len x'.1 x'.2.1 x'.2.2 y'.2.2
    generalize rdw x'.1 x'.2.1 x'.2.2 y'.2.2 = r at *
    obtain ⟨ra, rb, k⟩ := r
    dsimp only at *
    clear HRd hvl
    dsimp only [vw]
    generalize hs0 : (⟨x'.1.toArray⟩ : ByteArray) = sx0 at *
    have HS0 := Hid.of (And.intro hs0 trivial)
    clear hs0
    generalize hs1 : (⟨x'.2.1.toArray⟩ : ByteArray) = sx1 at *
    have HS1 := Hid.of (And.intro hs1 trivial)
    clear hs1
    generalize (⟨x'.2.2.toArray⟩ : ByteArray) = sx2 at *
    generalize (⟨y'.1.toArray⟩ : ByteArray) = sy0 at *
    generalize (⟨y'.2.1.toArray⟩ : ByteArray) = sy1 at *
    generalize (⟨y'.2.2.toArray⟩ : ByteArray) = sy2 at *
    have hsn : ¬ 9223372036854775807 < sx1.size + 7 := by omega
    by_cases h1 : y'.1 ≠ x'.1
    · rw [decide_eq_false h1] at hqp
      have HN := Hid.of (HP2.out.trans (if_pos (.inl h1)))
      clear h1 HP2 hqv HRW
      go_wp2_with (with_reducible show wpList _ _ _ ({ dst := _, op := Op.store 32 _ _, type := _, pos := _, after := _, guard := _ } :: _) _ _; refine Shut.out ?_)
      show wpList _ _ _ _ _ _
      refine wpList_store_at rfl _ _ _ rfl w.heap.size (HB1.out.up (((Up.refl w1).alloc _).alloc _)) (cb Z32) rfl rfl rfl (by kernel_rfl) (cb_all _) fun x1 hx1 hg1 => ?_
      have HX1 := Hid.of hx1
      have HX2 := Hid.of (At.by (HB2.out.up (((Up.refl w1).alloc _).alloc _)) hg1 (by intro h; injection h with h; omega))
      have HXU := Hid.of (Up.by ((HU1.out.alloc _).alloc _) hg1 (fun g hg => by injection hg with hg; omega))
      clear hx1 hg1
      simp only [Act.put]
      go_wp2_with (with_reducible show wpList _ _ _ ({ dst := _, op := Op.store 32 _ _, type := _, pos := _, after := _, guard := _ } :: _) _ _; refine Shut.out ?_)
      show wpList _ _ _ _ _ _
      refine wpList_store_at rfl _ _ _ rfl (w.heap.size + 1) HX2.out (cb Z32) rfl rfl rfl (by kernel_rfl) (cb_all _) fun x2 hx2 hg2 => ?_
      have HY2 := Hid.of hx2
      have HY1 := Hid.of (HX1.out.by hg2 (by intro h; injection h with h; omega))
      have HYU := Hid.of (HXU.out.by hg2 (fun g hg => by injection hg with hg; omega))
      clear hx2 hg2 HX1 HX2 HXU
      simp only [Act.put]
      go_wp2
      refine bodyPost_ret (result_t2c2t Tryz.results34 _ _ _ _ (cb Z32) (cb Z32) _ _ _ rfl rfl rfl rfl rfl HY1.out.range Tryz.underlying32 rfl (by kernel_rfl) HY2.out.range Tryz.underlying32 rfl (by kernel_rfl)) rfl ?_
      rw [HN.out]
      exact ⟨rfl, HYU.out⟩
    · rw [decide_eq_true (Decidable.not_not.1 h1)] at hqp
      by_cases h2 : y'.2.1 ≠ x'.2.1 ++ GOM
      · rw [decide_eq_false h2] at hqv
        have HN := Hid.of (HP2.out.trans (if_pos (.inr h2)))
        clear h1 h2 HP2 HRW
        go_wp2_with (with_reducible show wpList _ _ _ ({ dst := _, op := Op.store 32 _ _, type := _, pos := _, after := _, guard := _ } :: _) _ _; refine Shut.out ?_)
        show wpList _ _ _ _ _ _
        refine wpList_store_at rfl _ _ _ rfl w.heap.size (HB1.out.up (((Up.refl w1).alloc _).alloc _)) (cb Z32) rfl rfl rfl (by kernel_rfl) (cb_all _) fun x1 hx1 hg1 => ?_
        have HX1 := Hid.of hx1
        have HX2 := Hid.of (At.by (HB2.out.up (((Up.refl w1).alloc _).alloc _)) hg1 (by intro h; injection h with h; omega))
        have HXU := Hid.of (Up.by ((HU1.out.alloc _).alloc _) hg1 (fun g hg => by injection hg with hg; omega))
        clear hx1 hg1
        simp only [Act.put]
        go_wp2_with (with_reducible show wpList _ _ _ ({ dst := _, op := Op.store 32 _ _, type := _, pos := _, after := _, guard := _ } :: _) _ _; refine Shut.out ?_)
        show wpList _ _ _ _ _ _
        refine wpList_store_at rfl _ _ _ rfl (w.heap.size + 1) HX2.out (cb Z32) rfl rfl rfl (by kernel_rfl) (cb_all _) fun x2 hx2 hg2 => ?_
        have HY2 := Hid.of hx2
        have HY1 := Hid.of (HX1.out.by hg2 (by intro h; injection h with h; omega))
        have HYU := Hid.of (HXU.out.by hg2 (fun g hg => by injection hg with hg; omega))
        clear hx2 hg2 HX1 HX2 HXU
        simp only [Act.put]
        go_wp2
        refine bodyPost_ret (result_t2c2t Tryz.results34 _ _ _ _ (cb Z32) (cb Z32) _ _ _ rfl rfl rfl rfl rfl HY1.out.range Tryz.underlying32 rfl (by kernel_rfl) HY2.out.range Tryz.underlying32 rfl (by kernel_rfl)) rfl ?_
        rw [HN.out]
        exact ⟨rfl, HYU.out⟩
      · rw [decide_eq_true (Decidable.not_not.1 h2)] at hqv
        have HP3 := Hid.of (HP2.out.trans (if_neg (by rintro (h | h); exact h1 h; exact h2 h)))
        clear h1 h2 HP2
        go_wp2_with fail
        refine (HRW _ ((HU1.out.alloc _).alloc _)).out.mono ?_
        rintro e w2 ⟨rfl, u2⟩
        have HC1 := Hid.of ((HB1.out.up (((Up.refl w1).alloc _).alloc _)).up u2)
        have HC2 := Hid.of ((HB2.out.up (((Up.refl w1).alloc _).alloc _)).up u2)
        have HQ := Hid.of (((at_new w1 103 [.string sx0, .string sx1, .string sx2]).up ((Up.refl _).alloc _)).up u2)
        have HU2 := Hid.of (((HU1.out.alloc _).alloc _).trans u2)
        clear u2 HB1 HB2 HU1 HRW hqp hqv hsn hsz
        dsimp only
        go_wp2_with (with_reducible show wpList _ _ _ ({ dst := _, op := Op.store 32 _ _, type := _, pos := _, after := _, guard := _ } :: _) _ _; refine Shut.out ?_)
        show wpList _ _ _ _ _ _
        refine wpList_store_at rfl _ _ _ rfl w.heap.size HC1.out (cb ra) rfl rfl (by rw [cb_length, cb_length, rl1]; rfl) (by rw [List.size_toArray, cb_length, rl1]; kernel_rfl) (cb_all _) fun w3 h3 hg3 => ?_
        have HD1 := Hid.of h3
        have HD2 := Hid.of (HC2.out.by hg3 (by intro h; injection h with h; omega))
        have HQ3 := Hid.of (HQ.out.by hg3 (by have := HLt.out; intro h; injection h with h; omega))
        have HU3 := Hid.of (HU2.out.by hg3 (fun g hg => by injection hg with hg; omega))
        clear h3 hg3 HC1 HC2 HQ HU2
        simp only [Act.put]
        go_wp2_with (with_reducible show wpList _ _ _ ({ dst := _, op := Op.store 32 _ _, type := _, pos := _, after := _, guard := _ } :: _) _ _; refine Shut.out ?_)
        show wpList _ _ _ _ _ _
        refine wpList_store_at rfl _ _ _ rfl (w.heap.size + 1) HD2.out (cb rb) rfl rfl (by rw [cb_length, cb_length, rl2]; rfl) (by rw [List.size_toArray, cb_length, rl2]; kernel_rfl) (cb_all _) fun w4 h4 hg4 => ?_
        have HE2 := Hid.of h4
        have HE1 := Hid.of (HD1.out.by hg4 (by intro h; injection h with h; omega))
        have HQ4 := Hid.of (HQ3.out.by hg4 (by have := HLt.out; intro h; injection h with h; omega))
        have HU4 := Hid.of (HU3.out.by hg4 (fun g hg => by injection hg with hg; omega))
        clear h4 hg4 HD1 HD2 HQ3 HU3
        simp only [Act.put]
        by_cases hk : k = 0
        · subst hk
          have HP4 := Hid.of (HP3.out.trans (if_neg (fun h => h rfl)))
          clear HP3
          have hp0 := HQ4.out.cell (i := 0) rfl
          have hp1 := HQ4.out.cell (i := 1) rfl
          go_wp2
          have hp0d : w4.drew.cell? ⟨w1.heap.size, 0, none⟩ = some (.string sx0) := by simpa using hp0
          have hp1d : w4.drew.cell? ⟨w1.heap.size, 1, none⟩ = some (.string sx1) := by simpa using hp1
          have ix := i32 rl1
          have iy := i32 rl2
          have lx : (cb ra).length = 32 := by rw [cb_length, rl1]
          have ly : (cb rb).length = 32 := by rw [cb_length, rl2]
          have ox := cb_all ra
          have oy := cb_all rb
          generalize hxx : cb ra = xx at *
          generalize hyy : cb rb = yy at *
          have HZZ := Hid.of (And.intro hxx hyy)
          have hlt := HLt.out
          clear hxx hyy hp0 hp1
          refine wp_region_held_drew (S := fun w2 => w2.rangeAt (w.heap.size) 0 (xx) ∧ w2.rangeAt (w.heap.size + 1) 0 (yy) ∧ w2.there (w.heap.size) 0 32 ∧ w2.there (w.heap.size + 1) 0 32 ∧ (fun w2 => Up w w2 ∧ w2.cell? ⟨w1.heap.size, 0, none⟩ = some (.string sx0) ∧ w2.cell? ⟨w1.heap.size, 1, none⟩ = some (.string sx1)) w2) (by kernel_rfl) ⟨by simpa using HE1.out.range, by simpa using HE2.out.range, by simpa [lx] using HE1.out.there, by simpa [ly] using HE2.out.there, HU4.out.drew, hp0d, hp1d⟩ (fun hS => ?_)
          refine wpAnyH_take (i := 0) (oi := { dst := some 47, op := Go.Op.fieldAddr 103 (Go.Operand.tmp 7) 0, type := 0, pos := "record.go:55", after := #[], guard := none }) (v := .pointer (some ⟨w1.heap.size, 0, none⟩)) rfl (by kernel_rfl) (by kernel_rfl) (by kernel_rfl) (fun _ _ _ h => h) (Or.inl ⟨by kernel_rfl, ?_⟩) hS ?_
          · intro w5 hSw
            obtain ⟨_, _, _, _, _, hp0, hp1⟩ := hSw
            go_simp
          simp only [Act.put, List.setIfInBounds_toArray, List.set_cons_zero, List.set_cons_succ]
          refine wpAnyH_take (i := 1) (oi := { dst := some 48, op := Go.Op.load 9 (Go.Operand.tmp 47), type := 9, pos := "record.go:55", after := #[{ on := 0, ground := Go.Ground.data }], guard := none }) (v := .string sx0) rfl (by kernel_rfl) (by kernel_rfl) (by kernel_rfl) (fun _ _ _ h => h) (Or.inl ⟨by kernel_rfl, ?_⟩) hS ?_
          · intro w5 hSw
            obtain ⟨_, _, _, _, _, hp0, hp1⟩ := hSw
            go_simp
          simp only [Act.put, List.setIfInBounds_toArray, List.set_cons_zero, List.set_cons_succ]
          refine wpAnyH_take (i := 2) (oi := { dst := some 49, op := Go.Op.fieldAddr 103 (Go.Operand.tmp 7) 1, type := 0, pos := "record.go:55", after := #[{ on := 6, ground := Go.Ground.gcOnly Go.Departure.lateStores }], guard := none }) (v := .pointer (some ⟨w1.heap.size, 1, none⟩)) rfl (by kernel_rfl) (by kernel_rfl) (by kernel_rfl) (fun _ _ _ h => h) (Or.inl ⟨by kernel_rfl, ?_⟩) hS ?_
          · intro w5 hSw
            obtain ⟨_, _, _, _, _, hp0, hp1⟩ := hSw
            go_simp
          simp only [Act.put, List.setIfInBounds_toArray, List.set_cons_zero, List.set_cons_succ]
          refine wpAnyH_take (i := 3) (oi := { dst := some 50, op := Go.Op.load 9 (Go.Operand.tmp 49), type := 9, pos := "record.go:55", after := #[{ on := 2, ground := Go.Ground.data }, { on := 6, ground := Go.Ground.gcOnly Go.Departure.lateStores }], guard := none }) (v := .string sx1) rfl (by kernel_rfl) (by kernel_rfl) (by kernel_rfl) (fun _ _ _ h => h) (Or.inl ⟨by kernel_rfl, ?_⟩) hS ?_
          · intro w5 hSw
            obtain ⟨_, _, _, _, _, hp0, hp1⟩ := hSw
            go_simp
          simp only [Act.put, List.setIfInBounds_toArray, List.set_cons_zero, List.set_cons_succ]
          refine wpAnyH_take (i := 4) (oi := { dst := some 51, op := Go.Op.load 32 (Go.Operand.tmp 4), type := 32, pos := "record.go:55", after := #[{ on := 7, ground := Go.Ground.gcOnly Go.Departure.lateStores }], guard := none }) (v := .agg (xx).toArray) rfl (by kernel_rfl) (by kernel_rfl) (by kernel_rfl) (fun _ _ _ h => h) (yieldsIf_load_mid (by kernel_rfl) _ _ rfl (w.heap.size) 0 rfl (xx) _ (fun w5 hSw => hSw.1) Tryz.underlying32 rfl ix) hS ?_
          simp only [Act.put, List.setIfInBounds_toArray, List.set_cons_zero, List.set_cons_succ]
          refine wpAnyH_take (i := 5) (oi := { dst := some 52, op := Go.Op.load 32 (Go.Operand.tmp 5), type := 32, pos := "record.go:55", after := #[{ on := 8, ground := Go.Ground.gcOnly Go.Departure.lateStores }], guard := none }) (v := .agg (yy).toArray) rfl (by kernel_rfl) (by kernel_rfl) (by kernel_rfl) (fun _ _ _ h => h) (yieldsIf_load_mid (by kernel_rfl) _ _ rfl (w.heap.size + 1) 0 rfl (yy) _ (fun w5 hSw => hSw.2.1) Tryz.underlying32 rfl iy) hS ?_
          simp only [Act.put, List.setIfInBounds_toArray, List.set_cons_zero, List.set_cons_succ]
          refine wpAnyH_ready (rs := [6]) (by kernel_rfl) (by simp) ?_
          refine AllReadyH.cons (o := { dst := some 2, op := Go.Op.assign (Go.Operand.tmp 48), type := 9, pos := "record.go:55", after := #[{ on := 1, ground := Go.Ground.data }, { on := 0, ground := Go.Ground.phase }, { on := 1, ground := Go.Ground.phase }, { on := 2, ground := Go.Ground.textOnly Go.Departure.lateStores }, { on := 3, ground := Go.Ground.textOnly Go.Departure.lateStores }, { on := 4, ground := Go.Ground.textOnly Go.Departure.lateStores }, { on := 5, ground := Go.Ground.textOnly Go.Departure.lateStores }], guard := none }) rfl (fun K hK => ?_) AllReadyH.nil
          rw [if_pos (by kernel_rfl)]
          go_simp
          refine hK.out _ _ hS (fun hS1 => ?_)
          clear hK hS
          refine wpAnyH_ready (rs := [7]) (by kernel_rfl) (by simp) ?_
          refine AllReadyH.cons (o := { dst := some 3, op := Go.Op.assign (Go.Operand.tmp 50), type := 9, pos := "record.go:55", after := #[{ on := 3, ground := Go.Ground.data }, { on := 6, ground := Go.Ground.chain }, { on := 0, ground := Go.Ground.phase }, { on := 1, ground := Go.Ground.phase }, { on := 2, ground := Go.Ground.phase }, { on := 3, ground := Go.Ground.phase }, { on := 4, ground := Go.Ground.textOnly Go.Departure.lateStores }, { on := 5, ground := Go.Ground.textOnly Go.Departure.lateStores }, { on := 6, ground := Go.Ground.phase }], guard := none }) rfl (fun K hK => ?_) AllReadyH.nil
          rw [if_pos (by kernel_rfl)]
          go_simp
          refine hK.out _ _ hS1 (fun hS2 => ?_)
          clear hK hS1
          refine wpAnyH_ready (rs := [8]) (by kernel_rfl) (by simp) ?_
          refine AllReadyH.cons (o := { dst := none, op := Go.Op.store 32 (Go.Operand.tmp 4) (Go.Operand.tmp 51), type := 0, pos := "record.go:55", after := #[{ on := 4, ground := Go.Ground.data }, { on := 7, ground := Go.Ground.chain }, { on := 0, ground := Go.Ground.phase }, { on := 1, ground := Go.Ground.phase }, { on := 2, ground := Go.Ground.phase }, { on := 3, ground := Go.Ground.phase }, { on := 4, ground := Go.Ground.phase }, { on := 5, ground := Go.Ground.textOnly Go.Departure.lateStores }, { on := 6, ground := Go.Ground.phase }, { on := 7, ground := Go.Ground.phase }], guard := none }) rfl (fun K hK => ?_) AllReadyH.nil
          rw [if_pos (by kernel_rfl)]
          refine wp_store_mid _ _ _ rfl (w.heap.size) 0 (xx).toArray rfl rfl (show World.there _ _ _ (List.length (xx)) by rw [lx]; exact hS2.2.2.1) ix ox ?_
          simp only [Act.put]
          refine hK.out _ _ ⟨World.rangeAt_setCells_same _ _ _ _ (by rw [lx]; exact hS2.2.2.1), World.rangeAt_setCells_apart hS2.2.1 _ _ _ (.inl (by omega)), World.there_setCells hS2.2.2.1 _ _ _, World.there_setCells hS2.2.2.2.1 _ _ _, PRR.set (by omega) (by omega) _ hS2.2.2.2.2⟩ (fun hS3 => ?_)
          clear hK hS2
          refine wpAnyH_ready (rs := [9]) (by kernel_rfl) (by simp) ?_
          refine AllReadyH.cons (o := { dst := none, op := Go.Op.store 32 (Go.Operand.tmp 5) (Go.Operand.tmp 52), type := 0, pos := "record.go:55", after := #[{ on := 5, ground := Go.Ground.data }, { on := 8, ground := Go.Ground.chain }, { on := 0, ground := Go.Ground.phase }, { on := 1, ground := Go.Ground.phase }, { on := 2, ground := Go.Ground.phase }, { on := 3, ground := Go.Ground.phase }, { on := 4, ground := Go.Ground.phase }, { on := 5, ground := Go.Ground.phase }, { on := 6, ground := Go.Ground.phase }, { on := 7, ground := Go.Ground.phase }, { on := 8, ground := Go.Ground.phase }], guard := none }) rfl (fun K hK => ?_) AllReadyH.nil
          rw [if_pos (by kernel_rfl)]
          refine wp_store_mid _ _ _ rfl (w.heap.size + 1) 0 (yy).toArray rfl rfl (show World.there _ _ _ (List.length (yy)) by rw [ly]; exact hS3.2.2.2.1) iy oy ?_
          simp only [Act.put]
          refine hK.out _ _ ⟨World.rangeAt_setCells_apart hS3.1 _ _ _ (.inl (by omega)), World.rangeAt_setCells_same _ _ _ _ (by rw [ly]; exact hS3.2.2.2.1), World.there_setCells hS3.2.2.1 _ _ _, World.there_setCells hS3.2.2.2.1 _ _ _, PRR.set (by omega) (by omega) _ hS3.2.2.2.2⟩ (fun hS4 => ?_)
          clear hK hS3
          refine wpAnyH_ready (rs := [10]) (by kernel_rfl) (by simp) ?_
          refine AllReadyH.cons (o := { dst := some 6, op := Go.Op.assign (Go.Operand.const (Go.Value.int Go.IntKind.i64 0)), type := 23, pos := "record.go:55", after := #[{ on := 9, ground := Go.Ground.chain }, { on := 0, ground := Go.Ground.phase }, { on := 1, ground := Go.Ground.phase }, { on := 2, ground := Go.Ground.phase }, { on := 3, ground := Go.Ground.phase }, { on := 4, ground := Go.Ground.phase }, { on := 5, ground := Go.Ground.phase }, { on := 6, ground := Go.Ground.phase }, { on := 7, ground := Go.Ground.phase }, { on := 8, ground := Go.Ground.phase }, { on := 9, ground := Go.Ground.phase }], guard := none }) rfl (fun K hK => ?_) AllReadyH.nil
          rw [if_pos (by kernel_rfl)]
          go_simp
          refine hK.out _ _ hS4 (fun hS5 => ?_)
          clear hK hS4
          refine wpAnyH_done (by kernel_rfl) ?_ _
          have HSZ := Hid.of hS5
          clear hS5
          generalize World.setCells _ _ _ _ = WZ at *
          go_wp2_with fail
          refine bodyPost_ret (result_t2c2t Tryz.results34 _ _ _ _ _ _ _ _ _ rfl rfl rfl rfl rfl HSZ.out.1 Tryz.underlying32 rfl ix HSZ.out.2.1 Tryz.underlying32 rfl iy) rfl ?_
          rw [HP4.out]
          refine ⟨?_, HSZ.out.2.2.2.2.1⟩
          show _ = Ending.returned (.tuple #[.string ⟨x'.1.toArray⟩, .string ⟨x'.2.1.toArray⟩, .agg (cb ra).toArray, .agg (cb rb).toArray, .int .i64 0])
          rw [HZZ.out.1, HZZ.out.2, HS0.out.1, HS1.out.1]
          rfl
        · have HP4 := Hid.of (HP3.out.trans (if_pos hk))
          have hkz : (k != 0) = true := by rw [bne_iff_ne]; exact hk
          clear hk HP3
          go_wp2_with (with_reducible show wpList _ _ _ ({ dst := _, op := Op.store 32 _ _, type := _, pos := _, after := _, guard := _ } :: _) _ _; refine Shut.out ?_)
          show wpList _ _ _ _ _ _
          refine wpList_store_at rfl _ _ _ rfl w.heap.size (HE1.out) (cb Z32) rfl rfl (by rw [cb_length ra, rl1]; rfl) (by kernel_rfl) (cb_all _) fun x1 hx1 hg1 => ?_
          have HX1 := Hid.of hx1
          have HX2 := Hid.of (At.by (HE2.out) hg1 (by intro h; injection h with h; omega))
          have HXU := Hid.of (Up.by (HU4.out) hg1 (fun g hg => by injection hg with hg; omega))
          clear hx1 hg1
          simp only [Act.put]
          go_wp2_with (with_reducible show wpList _ _ _ ({ dst := _, op := Op.store 32 _ _, type := _, pos := _, after := _, guard := _ } :: _) _ _; refine Shut.out ?_)
          show wpList _ _ _ _ _ _
          refine wpList_store_at rfl _ _ _ rfl (w.heap.size + 1) HX2.out (cb Z32) rfl rfl (by rw [cb_length rb, rl2]; rfl) (by kernel_rfl) (cb_all _) fun x2 hx2 hg2 => ?_
          have HY2 := Hid.of hx2
          have HY1 := Hid.of (HX1.out.by hg2 (by intro h; injection h with h; omega))
          have HYU := Hid.of (HXU.out.by hg2 (fun g hg => by injection hg with hg; omega))
          clear hx2 hg2 HX1 HX2 HXU
          simp only [Act.put]
          go_wp2
          refine bodyPost_ret (result_t2c2t Tryz.results34 _ _ _ _ (cb Z32) (cb Z32) _ _ _ rfl rfl rfl rfl rfl HY1.out.range Tryz.underlying32 rfl (by kernel_rfl) HY2.out.range Tryz.underlying32 rfl (by kernel_rfl)) rfl ?_
          rw [HP4.out]
          exact ⟨rfl, HYU.out⟩
end Go.Proofs.YtnciglpdjpckiaaGreatDoor
