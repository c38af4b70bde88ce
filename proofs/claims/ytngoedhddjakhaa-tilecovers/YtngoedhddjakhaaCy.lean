import Derived.Test.YtngoedhddjakhaaCx
namespace Go.Proofs.Ytngoedhddjakhaa
open Go.RowKit TileNum
theorem num_walkC (n : Int) (w : World) : Calls Try.prog 8 #[.int .i64 n] w fun e w' => e = .returned (.int .i64 n) ∧ w' = w := by
  go_enter Try.func8, Try.ntmps8
  go_wp2
  go_ret
  exact ⟨rfl, rfl⟩
/-- what Fresh answers of small trees -/
theorem small_FA {h o s : Nat} {w : World} {e : Ending} {w' : World} (hs : s ≤ 600) (q : FA h o s w e w') : ∃ a c, e = .returned (.tuple #[.slice a (FL h o s).length c, .int .i64 0]) ∧ OwnTl w' w.heap.size (.slice a (FL h o s).length c) h (FL h o s) ∧ (FL h o s).length ≤ 29400 ∧ Up w w' := by
  have hl := pre_le h o s 600 hs 49
  obtain ⟨u, q⟩ := q
  rw [if_neg (by unfold FL; omega)] at q
  obtain ⟨v, rfl, q⟩ := q
  obtain ⟨a, c, rfl⟩ := q.len
  exact ⟨a, c, rfl, q, by unfold FL; omega, u⟩
theorem ws_take (l : List TT) (i : Nat) : ws (l.take i) ≤ ws l := by
  have h := ws_append (l.take i) (l.drop i)
  rw [List.take_append_drop] at h
  omega
theorem ws_step {l : List TT} {i : Nat} (h : i < l.length) : ws (l.take (i + 1)) = ws (l.take i) + l[i].2.2 := by
  rw [List.take_succ_eq_append_getElem h, ws_append]
  simp [ws]
theorem ws_mem {l : List TT} {i : Nat} (h : i < l.length) : l[i].2.2 ≤ ws l := by
  have h1 := ws_step h
  have h2 := ws_take l (i + 1)
  omega
theorem filt_step {α : Type} (p : α → Bool) {l : List α} {i : Nat} (h : i < l.length) : ((l.take (i + 1)).filter p).length = ((l.take i).filter p).length + (if p l[i] = true then 1 else 0) := by
  rw [List.take_succ_eq_append_getElem h, List.filter_append, List.length_append]
  by_cases hp : p l[i] = true
  · simp [hp]
  · simp [hp]
theorem filt_get {α : Type} (p : α → Bool) {l : List α} {i : Nat} (h : i < l.length) : p l[i] = true → (l.filter p)[((l.take i).filter p).length]? = some l[i] := by
  intro hp
  have e : l.filter p = (l.take i).filter p ++ l[i] :: (l.drop (i + 1)).filter p := by
    have h1 := List.take_append_drop i l
    rw [List.drop_eq_getElem_cons h] at h1
    have h2 := congrArg (List.filter p) h1
    rw [List.filter_append, List.filter_cons_of_pos hp] at h2
    exact h2.symm
  rw [e, List.getElem?_append_right (Nat.le_refl _), Nat.sub_self]
  rfl
theorem mem_step {D : List TT} {t : TT} {j : Nat} (h : j < D.length) : decide (t ∈ D.take (j + 1)) = (decide (t ∈ D.take j) || decide (D[j] = t)) := by
  rw [List.take_succ_eq_append_getElem h, Bool.eq_iff_iff]
  simp only [Bool.or_eq_true, decide_eq_true_eq, List.mem_append, List.mem_singleton]
  constructor
  · rintro (h1 | h1)
    · exact .inl h1
    · exact .inr h1.symm
  · rintro (h1 | h1)
    · exact .inl h1
    · exact .inr h1.symm
set_option maxRecDepth 100000 in
set_option maxHeartbeats 4000000 in
theorem covers_walk (x y z : Int) (w : World) : Calls Try.prog 4 #[.int .i64 x, .int .i64 y, .int .i64 z] w fun e w' => e = .returned (.bool true) ∧ Up w w' := by
  have HX := fun w => Hid.of (within_walk x 8 (by decide) (by decide) w)
  have HZ := fun w => Hid.of (within_walk z 600 (by decide) (by decide) w)
  go_enter Try.func4, Try.ntmps4
  go_wp2_with fail
  refine (HX w).out.mono ?_
  rintro e w9 ⟨⟨h', hh', rfl⟩, h9⟩
  obtain rfl := h9.symm
  obtain ⟨h, hh⟩ : ∃ h, h = h' + 1 := ⟨_, rfl⟩
  have hhz : (h' : Int) + 1 = (h : Int) := by omega
  have hh1 : 1 ≤ h := by omega
  have hh8 : h ≤ 8 := by omega
  clear HX h9 hh
  dsimp only
  go_wp2_with fail
  refine (HZ w).out.mono ?_
  rintro e w9 ⟨⟨s, hs, rfl⟩, h9⟩
  obtain rfl := h9.symm
  have HY := fun w => Hid.of (within_walk y (s + 1) (by omega) (by omega) w)
  clear HZ h9
  dsimp only
  go_wp2_with fail
  refine (HY w).out.mono ?_
  rintro e w9 ⟨⟨o, ho, rfl⟩, h9⟩
  obtain rfl := h9.symm
  obtain ⟨p, hp⟩ : ∃ p, p = 2 ^ h := ⟨_, rfl⟩
  have hos : o ≤ s := by omega
  have HA := fun w => Hid.of (all_walk h p s hh1 hh8 hp (by omega) w)
  have HB := fun w => Hid.of (all_walk h p o hh1 hh8 hp (by omega) w)
  have HC := fun w => Hid.of (fresh_walk h p o s hh1 hh8 hp hos (by omega) w)
  have HP := Hid.of hp
  clear HY h9 hp
  dsimp only
  go_wp2_with fail
  refine (HA w).out.mono ?_
  intro e w1 q1
  obtain ⟨a1, c1, rfl, o1, l1, u1⟩ := small_FA (by omega) q1
  have H1 := Hid.of (And.intro o1 u1)
  clear o1 u1 q1 HA
  dsimp only
  go_wp2_with fail
  refine (HB w1).out.mono ?_
  intro e w2 q2
  obtain ⟨a2, c2, rfl, o2, l2, u2⟩ := small_FA (by omega) q2
  have H2 := Hid.of (And.intro (And.intro o2 (H1.out.1.up u2)) (H1.out.2.trans u2))
  clear o2 u2 q2 HB H1
  dsimp only
  go_wp2_with fail
  refine (HC w2).out.mono ?_
  intro e w3 q3
  obtain ⟨a3, c3, rfl, o3, l3, u3⟩ := small_FA (by omega) q3
  have HW3 := Hid.of (H2.out.2.trans u3)
  have HO1 := Hid.of (H2.out.1.2.up u3)
  have HO2 := Hid.of (H2.out.1.1.up u3)
  have HO3 := Hid.of o3
  clear o3 u3 q3 HC H2
  have HF := Hid.of (FL_new (h := h) hos)
  have HL1 := Hid.of (And.intro l1 (And.intro l2 l3))
  generalize hA : FL h 0 s = A at *
  generalize FL h 0 o = D at *
  generalize FL h o s = F at *
  have HA := Hid.of hA
  clear hA l1 l2 l3
  dsimp only
  go_wp2_with (go_at_call 8; refine (num_walkC _ _).mono ?_; rintro e w9 ⟨rfl, h9⟩; obtain rfl := h9.symm)
  clear hhz
  have HT := Hid.of (fun k => tot_le h s k)
  go_loopg [13, 14, 15] 49 (fun k s13 s14 s15 wr => ∃ lv : Nat, lv ≤ 49 ∧ 49 - lv ≤ k ∧ s15 = .int .i64 (lv : Int) ∧ s14 = .int .i64 (nd h lv s : Int) ∧ s13 = .int .i64 (tot h s lv : Int) ∧ Hid (Up w3 wr))
  case atStart => exact ⟨0, by omega, by omega, rfl, by rw [nd_0], rfl, Up.refl _⟩
  case round =>
    obtain ⟨lv, hlv, hk, rfl, rfl, rfl, HU⟩ := hrel
    obtain ⟨wb, hwb⟩ : ∃ wb, wb = wr := ⟨_, rfl⟩
    subst hwb
    have ht : tot h s lv ≤ 29400 := Nat.le_trans (HT.out lv) (Nat.mul_le_mul hlv (by omega : s ≤ 600))
    by_cases hpos : 0 < nd h lv s
    · have hl48 : lv < 49 := by
        rcases Nat.lt_or_ge lv 49 with h2 | h2
        · exact h2
        · rw [nd_far hh1 (by omega) h2] at hpos; omega
      have hpz : 0 < (nd h lv s : Int) := by omega
      have HCv := fun w' => fun (u : Up w3 w') => Hid.of (covered_walk _ _ h p lv (nd h lv s) A hh1 hh8 HP.out (by have := nd_le h lv s; omega) (by omega) (by have := HL1.out.1; omega) w' (HO1.out.up u) (by rw [← HA.out]; exact cvs_all hpos hl48))
      have hq : (nd h lv s : Int) / 2 ^ h = (nd h (lv + 1) s : Int) := by rw [nd_succ]; simp
      have HTs : Hid (tot h s (lv + 1) = tot h s lv + nd h lv s) := rfl
      have hcs : nd h lv s ≤ 600 := Nat.le_trans (nd_le h lv s) (by omega)
      generalize nd h lv s = c at *
      obtain ⟨c', hc'⟩ : ∃ c', c' = nd h (lv + 1) s := ⟨_, rfl⟩
      rw [← hc'] at hq
      have HC' := Hid.of hc'
      clear hc'
      generalize tot h s lv = t0 at *
      have hcc : ((c : Int) == (c : Int)) = true := by simp
      go_wp2_with fail
      refine (HCv _ HU.out).out.mono ?_
      rintro e w5 ⟨rfl, u5⟩
      have HU5 := Hid.of (HU.out.trans u5)
      clear u5 HCv HU
      dsimp only
      go_wp2
      go_roundg (49 - (lv + 1))
      case measure => omega
      case rel => exact ⟨lv + 1, by omega, by omega, by go_num, by rw [HC'.out], by rw [HTs.out]; go_num, HU5.out⟩
    · have h0 : nd h lv s = 0 := by omega
      have HWs : Hid (ws A = tot h s lv) := by rw [← HA.out]; exact ws_all h0 hlv
      rw [h0]
      clear hpos hk
      generalize tot h s lv = t0 at *
      clear h0
      go_wp2_with fail
      have HSo : Hid (A.Pairwise lx) := by rw [← HA.out]; exact FL_sorted h 0 s
      go_loopg [16, 17] A.length (fun k s16 s17 wr => ∃ i : Nat, i ≤ A.length ∧ A.length - i ≤ k ∧ s17 = .int .i64 (i : Int) ∧ s16 = .int .i64 (ws (A.take i) : Int) ∧ Hid (Up w3 wr))
      case atStart => exact ⟨0, by omega, by omega, rfl, rfl, HU.out⟩
      case round =>
        clear HU hlv
        obtain ⟨i, hi, hk, rfl, rfl, HU⟩ := hrel
        obtain ⟨wc, hwc⟩ : ∃ wc, wc = wr := ⟨_, rfl⟩
        subst hwc
        have hal := HL1.out.1
        have hws : ws (A.take i) ≤ 29400 := Nat.le_trans (ws_take A i) (by rw [HWs.out]; exact ht)
        by_cases hlt : i < A.length
        · have hltz : (i : Int) < (A.length : Int) := by omega
          have HWi := Hid.of (ws_step hlt)
          have hwi : (A[i]).2.2 ≤ 29400 := Nat.le_trans (ws_mem hlt) (by rw [HWs.out]; exact ht)
          obtain ⟨g, c, ev, hcap, hg, hcell⟩ := (HO1.out.up HU.out).get hlt
          injection ev with ev1 _ ev3
          subst ev1 ev3
          have e1 := hcell 1 _ rfl
          have e2 := hcell 2 _ rfl
          have e3 := hcell 3 _ rfl
          by_cases hi0 : i = 0
          · subst hi0
            clear hcell
            generalize A[0] = t at *
            obtain ⟨tl, tn, tw⟩ := t
            generalize ws (A.take 0) = z0 at *
            simp only at e1 e2 e3 hwi HWi
            go_wp2_with fail
            go_quiet (fail)
            go_wp2
            go_roundg (A.length - 1)
            case measure => omega
            case rel => exact ⟨1, by omega, by omega, by go_num, by rw [HWi.out]; go_num, HU.out.drewN _⟩
          · obtain ⟨i', hi'⟩ : ∃ i', i = i' + 1 := ⟨i - 1, by omega⟩
            have hx : lx (A[i']'(by omega)) A[i] := List.pairwise_iff_getElem.1 HSo.out i' i (by omega) hlt (by omega)
            obtain ⟨g', c', ev', _, _, hcell'⟩ := (HO1.out.up HU.out).get (i := i') (by omega)
            injection ev' with ev1' _ ev3'
            injection ev1' with ev1'
            injection ev1' with ev1' _ _
            subst ev1' ev3'
            have f1 := hcell' 1 _ rfl
            have f2 := hcell' 2 _ rfl
            have hi'l : i' < A.length := by omega
            clear hcell hcell'
            generalize A[i] = t at *
            generalize A[i'] = t' at *
            obtain ⟨tl, tn, tw⟩ := t
            obtain ⟨sl, sn, sw⟩ := t'
            generalize ws (A.take i) = z0 at *
            simp only at e1 e2 e3 hwi HWi f1 f2
            unfold lx at hx
            simp only at hx
            have hsub : (i : Int) - 1 = (i' : Int) := by omega
            have hpos : 0 < (i : Int) := by omega
            have hposn : 0 < i := by omega
            have hi'z : (i' : Int) < (A.length : Int) := by omega
            clear hi' hi0
            rcases hx with hx | ⟨hx1, hx2⟩
            · have g1 : ¬ (tl : Int) < (sl : Int) := by omega
              have g2 : ((tl : Int) == (sl : Int)) = false := by simp; omega
              have g1n : ¬ tl < sl := by omega
              have g2n : ¬ tl = sl := by omega
              have g2b : (tl == sl) = false := by simpa using g2n
              clear hx
              go_wp2_with fail
              go_quiet (fail)
              go_wp2
              go_roundg (A.length - (i + 1))
              case measure => omega
              case rel => exact ⟨i + 1, by omega, by omega, by go_num, by rw [HWi.out]; go_num, HU.out.drewN _⟩
            · subst hx1
              have g1 : ¬ (sl : Int) < (sl : Int) := by omega
              have g2 : ((sl : Int) == (sl : Int)) = true := by simp
              have g3 : ¬ (tn : Int) ≤ (sn : Int) := by omega
              have g3n : ¬ tn ≤ sn := by omega
              have g1n : ¬ sl < sl := by omega
              clear hx2
              go_wp2_with fail
              go_quiet (fail)
              go_wp2
              go_roundg (A.length - (i + 1))
              case measure => omega
              case rel => exact ⟨i + 1, by omega, by omega, by go_num, by rw [HWi.out]; go_num, HU.out.drewN _⟩
        · have hltz : ¬ (i : Int) < (A.length : Int) := by omega
          have hiA : i = A.length := by omega
          subst hiA
          have hsum : ws (A.take A.length) = t0 := by rw [List.take_length]; exact HWs.out
          rw [hsum]
          have htt : ((t0 : Int) == (t0 : Int)) = true := by simp
          clear hltz hlt hi hk hws hsum
          go_wp2_with fail
          go_loopg [18, 19, 20, 21] A.length (fun k s18 s19 _ _ wr => ∃ i at' : Nat, i ≤ A.length ∧ A.length - i ≤ k ∧ s19 = .int .i64 (i : Int) ∧ s18 = .int .i64 (at' : Int) ∧ at' ≤ i ∧ Hid (at' = ((A.take i).filter (fun t => decide (t ∉ D))).length) ∧ Hid (Up w3 wr))
          case atStart => exact ⟨0, 0, by omega, by omega, rfl, rfl, by omega, rfl, HU.out⟩
          case round =>
            clear HU
            obtain ⟨i, at', hi, hk, rfl, rfl, hati, HAt, HU⟩ := hrel
            obtain ⟨wd, hwd⟩ : ∃ wd, wd = wr := ⟨_, rfl⟩
            subst hwd
            by_cases hlt : i < A.length
            · have hltz : (i : Int) < (A.length : Int) := by omega
              have HSt := Hid.of (filt_step (fun t => decide (t ∉ D)) hlt)
              have HGt := Hid.of (filt_get (fun t => decide (t ∉ D)) hlt)
              obtain ⟨g, c, ev, hcap, hg, hcell⟩ := HO1.out.get hlt
              injection ev with ev1 _ ev3
              subst ev1 ev3
              have HE := Hid.of hcell
              rw [HF.out, ← HAt.out] at HGt
              clear hcell hg
              generalize A[i] = t at *
              go_wp2_with fail
              go_loopg [20, 21] D.length (fun k s20 s21 wr => ∃ j : Nat, j ≤ D.length ∧ D.length - j ≤ k ∧ s21 = .int .i64 (j : Int) ∧ s20 = .bool (decide (t ∈ D.take j)) ∧ Hid (Up w3 wr))
              case atStart => exact ⟨0, by omega, by omega, rfl, by simp, HU.out⟩
              case round =>
                clear HU
                obtain ⟨j, hj, hkj, rfl, rfl, HU⟩ := hrel
                obtain ⟨we, hwe⟩ : ∃ we, we = wr := ⟨_, rfl⟩
                subst hwe
                have hdl := HL1.out.2.1
                by_cases hjlt : j < D.length
                · have hjz : (j : Int) < (D.length : Int) := by omega
                  have HM := Hid.of (mem_step (t := t) hjlt)
                  obtain ⟨g', c', ev', hcap', hg', hcell'⟩ := (HO2.out.up HU.out).get hjlt
                  injection ev' with ev1' _ ev3'
                  subst ev1' ev3'
                  by_cases hin : t ∈ D.take j
                  · rw [decide_eq_true hin]
                    rw [decide_eq_true hin, Bool.true_or] at HM
                    clear hcell' hin
                    go_wp2_with fail
                    go_quiet (fail)
                    go_wp2
                    go_roundg (D.length - (j + 1))
                    case measure => omega
                    case rel => exact ⟨j + 1, by omega, by omega, by go_num, by rw [HM.out], HU.out.drewN _⟩
                  · rw [decide_eq_false hin]
                    rw [decide_eq_false hin, Bool.false_or] at HM
                    have hcell := fun j u hu => HU.out.cell (HE.out j u hu)
                    have e0 := hcell 0 _ rfl
                    have e1 := hcell 1 _ rfl
                    have e2 := hcell 2 _ rfl
                    have e3 := hcell 3 _ rfl
                    have e4 := hcell 4 _ rfl
                    have f0 := hcell' 0 _ rfl
                    have f1 := hcell' 1 _ rfl
                    have f2 := hcell' 2 _ rfl
                    have f3 := hcell' 3 _ rfl
                    have f4 := hcell' 4 _ rfl
                    rw [Nat.add_zero] at e0 f0
                    generalize D[j] = q at *
                    clear hcell hcell' hin
                    go_wp2_with fail
                    refine wp_region_quiet_lit (by kernel_rfl) (by kernel_rfl) ?_
                    repeat (go_big_quiet_step (fail))
                    refine BigFrame.wpQuiet_want (by kernel_rfl) (fun K hK => ?_)
                    refine quiet_op (.bool (decide (q = t))) (fun w2 _ => exec_eqlT rfl h q t rfl rfl w2) ?_
                    refine hK _ ?_
                    clear hK K
                    simp only [Act.put, List.setIfInBounds_toArray, List.set_cons_zero, List.set_cons_succ]
                    rw [← HM.out]
                    obtain ⟨b3, hb3⟩ : ∃ b3, b3 = decide (t ∈ D.take (j + 1)) := ⟨_, rfl⟩
                    rw [← hb3]
                    have HB3 := Hid.of hb3
                    clear hb3 HM
                    repeat (go_big_quiet_step (fail))
                    refine wpQuiet_nil ?_
                    intro w2 hw
                    obtain ⟨k, rfl⟩ := hw
                    go_wp2
                    go_roundg (D.length - (j + 1))
                    case measure => omega
                    case rel => exact ⟨j + 1, by omega, by omega, by go_num, by rw [← HB3.out], HU.out.drewN _⟩
                · have hjz : ¬ (j : Int) < (D.length : Int) := by omega
                  have hjD : j = D.length := by omega
                  subst hjD
                  rw [List.take_length]
                  by_cases hin : t ∈ D
                  · rw [decide_eq_true hin]
                    have HAt2 : Hid (at' = ((A.take (i + 1)).filter (fun t => decide (t ∉ D))).length) := by
                      have h1 := HSt.out
                      rw [if_neg (by simpa using hin), Nat.add_zero, ← HAt.out] at h1
                      exact h1.symm
                    clear hin
                    go_wp2
                    go_roundg (A.length - (i + 1))
                    case measure => omega
                    case rel => exact ⟨i + 1, at', by omega, by omega, by go_num, rfl, by omega, HAt2.out, HU.out⟩
                  · rw [decide_eq_false hin]
                    have HAt2 : Hid (at' + 1 = ((A.take (i + 1)).filter (fun t => decide (t ∉ D))).length) := by
                      have h1 := HSt.out
                      rw [if_pos (by simpa using hin), ← HAt.out] at h1
                      exact h1.symm
                    have hft := HGt.out (by simpa using hin)
                    obtain ⟨hatF, hft⟩ := List.getElem?_eq_some_iff.1 hft
                    have hatz : ¬ (F.length : Int) ≤ (at' : Int) := by omega
                    have hatz2 : (at' : Int) < (F.length : Int) := by omega
                    have hatn : ¬ F.length ≤ at' := by omega
                    have hfl := HL1.out.2.2
                    have hal2 := HL1.out.1
                    obtain ⟨g', c', ev', hcap', hg', hcell'⟩ := (HO3.out.up HU.out).get hatF
                    injection ev' with ev1' _ ev3'
                    subst ev1' ev3'
                    rw [hft] at hcell'
                    have hcell := fun j u hu => HU.out.cell (HE.out j u hu)
                    have e0 := hcell 0 _ rfl
                    have e1 := hcell 1 _ rfl
                    have e2 := hcell 2 _ rfl
                    have e3 := hcell 3 _ rfl
                    have e4 := hcell 4 _ rfl
                    have f0 := hcell' 0 _ rfl
                    have f1 := hcell' 1 _ rfl
                    have f2 := hcell' 2 _ rfl
                    have f3 := hcell' 3 _ rfl
                    have f4 := hcell' 4 _ rfl
                    rw [Nat.add_zero] at e0 f0
                    clear hcell hcell' hin hft
                    go_wp2_with fail
                    refine wp_region_quiet_lit (by kernel_rfl) (by kernel_rfl) ?_
                    repeat (go_big_quiet_step (fail))
                    refine wpQuiet_nil ?_
                    intro w2 hw
                    obtain ⟨k, rfl⟩ := hw
                    go_wp2
                    go_roundg (A.length - (i + 1))
                    case measure => omega
                    case rel => exact ⟨i + 1, at' + 1, by omega, by omega, by go_num, by go_num, by omega, HAt2.out, HU.out.drewN _⟩
            · have hltz : ¬ (i : Int) < (A.length : Int) := by omega
              have hiA : i = A.length := by omega
              have HAF : Hid (at' = F.length) := by
                have h1 := HAt.out
                rw [hiA, List.take_length, HF.out] at h1
                exact h1
              have haz : ((at' : Int) == (F.length : Int)) = true := by rw [HAF.out]; simp
              clear hiA hlt
              go_wp2
              go_ret
              exact ⟨rfl, HW3.out.trans HU.out⟩
end Go.Proofs.Ytngoedhddjakhaa
