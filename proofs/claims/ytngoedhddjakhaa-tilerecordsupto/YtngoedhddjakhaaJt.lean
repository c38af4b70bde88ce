import Derived.Test.YtngoedhddjakhaaCu
import Derived.Lib.SlBytesConst
namespace Go.Proofs.Ytngoedhddjakhaa
open Go.RowKit Go.Shelf TextNum TileNum
/-- bytes made to a text, in a region that draws and only reads -/
theorem quiet_conv {C : World → Prop} {a : Act} {o : Oper} {K : Act → Prop} (x : Operand) (h : o.op = .convert 23 9 x) (v : Value) (b : ByteArray) (hx : a.eval x = v) (hs : ∀ w, C w → (convert 23 9 v).run Try.prog w = .ok (.string b) w) (hk : K (a.put o.dst (.string b))) : o.quiet Try.prog a C K :=
  ⟨_, fun w hw => by
    have e : (execOp a.eval o).run Try.prog w = .ok (.value (.string b)) w := by
      unfold execOp
      simp only [h, Sem.run_bind, Sem.run_pure, Result.andThen_ok, hx, hs w hw]
    unfold Oper.quietAt
    rw [e]
    exact ⟨rfl, rfl⟩, hk⟩
theorem num_walk (n : Int) (w : World) : Calls Try.prog 8 #[.int .i64 n] w fun e w' => e = .returned (.int .i64 n) ∧ w' = w := by
  go_enter Try.func8, Try.ntmps8
  go_wp2
  go_ret
  exact ⟨rfl, rfl⟩
theorem join_abn (w : World) (v : Value) (h : SlT w v [[97, 98], []]) : Calls Try.prog 7 #[v] w fun e w' => ∃ a c, e = .returned (.tuple #[.slice a 6 c, .int .i64 0]) ∧ (convert 23 9 (.slice a 6 c)).run Try.prog w' = .ok (.string ⟨#[0, 2, 97, 98, 0, 0]⟩) w' ∧ Up w w' := by
  refine (join_walk v _ w h (by decide)).mono fun e w' ⟨u, h⟩ => ?_
  rw [if_neg (by decide)] at h
  obtain ⟨v, rfl, ho⟩ := h
  obtain ⟨a, c, rfl⟩ := ho.len
  exact ⟨a, c, rfl, conv_sl ho.sl, u⟩
theorem slT_ab (w : World) : SlT ((w.alloc (.cells #[.int .u8 97, .int .u8 98] 5 (2, 3))).alloc (.cells #[.slice (some ⟨w.heap.size, 0, none⟩) 2 2, .slice none 0 0] 23)) (.slice (some ⟨w.heap.size + 1, 0, none⟩) 2 2) [[97, 98], []] := by
  refine ⟨_, 2, rfl, by simp, .inr ⟨w.heap.size + 1, 0, rfl, by simp, fun i hi => ?_⟩⟩
  match i, hi with
  | 0, _ =>
    refine ⟨_, by simp, ⟨_, 2, rfl, by simp, .inr ⟨w.heap.size, 0, rfl, by simp; omega, fun j hj => ?_⟩⟩⟩
    refine Go.Lib.cell?_alloc_marked _ ?_
    have e : (w.alloc (.cells #[.int .u8 97, .int .u8 98] 5 (2, 3))).heap[w.heap.size]? = some (.cells #[.int .u8 97, .int .u8 98] 5 (2, 3)) := alloc_new _ _
    match j, hj with
    | 0, _ => simp only [World.cell?, e]; rfl
    | 1, _ => simp only [World.cell?, e]; rfl
  | 1, _ => exact ⟨_, by simp, ⟨none, 0, rfl, Nat.le_refl _, .inl rfl⟩⟩
set_option maxRecDepth 100000 in
set_option maxHeartbeats 2000000 in
theorem joins_walk (v : Value) (rs : List (List UInt8)) (a : Option Addr) (c : Nat) (d : List UInt8) (k : Int) (w : World) (h1 : SlT w v rs) (hl1 : rs.length ≤ 9223372036854775807) (h2 : Sl w (.slice a d.length c) d) (hl2 : d.length ≤ 9223372036854775807) (hk1 : -9223372036854775808 ≤ k) (hk2 : k ≤ 9223372036854775807) :
    Calls Try.prog 3 #[v, .slice a d.length c, .int .i64 k] w fun e w' => e = .returned (.bool true) ∧ Up w w' := by
  have HS := Hid.of h1
  have HD := Hid.of h2
  have HA := fun w => Hid.of (join_abn _ _ (slT_ab w))
  have HJ := fun w' => fun (u : Up w w') => Hid.of (join_walk v rs w' (h1.up u) hl1)
  obtain ⟨va, vc, rfl, hvc, _⟩ := h1
  clear h2
  have hcs : (convert 23 23 (.slice (some ⟨w.heap.size, 0, none⟩) 2 2)).run Try.prog (w.alloc (.cells #[.int .u8 97, .int .u8 98] 5)) = .ok (.slice (some ⟨w.heap.size, 0, none⟩) 2 2) (w.alloc (.cells #[.int .u8 97, .int .u8 98] 5 (2, 3))) := Go.Lib.run_convert_bytes_const w 23 5 #[.int .u8 97, .int .u8 98] 2 2 Try.underlying23 Try.underlying5
  go_enter Try.func3, Try.ntmps3
  go_wp2_with fail
  refine (HA w).out.mono ?_
  rintro e w1 ⟨a1, c1, rfl, hc1, u1⟩
  have HU1 : Hid (Up w w1) := Hid.of ((((Up.refl w).alloc _).alloc _).trans u1)
  clear u1 HA hcs
  dsimp only
  go_wp2_with (go_at_call 8; refine (num_walk _ _).mono ?_; rintro e w9 ⟨rfl, h9⟩; obtain rfl := h9.symm)
  refine (HJ _ HU1.out).out.mono ?_
  rintro e w2 ⟨u2, h2⟩
  have HU2 := Hid.of (HU1.out.trans u2)
  clear HU1 HJ hc1 u2
  by_cases hg : lg rs = true
  · rw [if_pos hg] at h2
    subst h2
    dsimp only
    go_wp2_with (go_at_call 8; refine (num_walk _ _).mono ?_; rintro e w9 ⟨rfl, h9⟩; obtain rfl := h9.symm)
    go_loopg [14, 15] rs.length (fun g s14 s15 wr => ∃ i : Nat, i ≤ rs.length ∧ rs.length - i ≤ g ∧ s15 = .int .i64 (i : Int) ∧ s14 = .bool (decide (256 < rs.length) || (rs.take i).any tl) ∧ Hid (Up w wr))
    case atStart => exact ⟨0, by omega, by omega, rfl, by simp; omega, HU2.out⟩
    case round =>
      obtain ⟨i, hi, hgi, rfl, rfl, HU3⟩ := hrel
      obtain ⟨wb, hwb⟩ : ∃ wb, wb = wr := ⟨_, rfl⟩
      subst hwb
      by_cases hlt : i < rs.length
      · have hltz : (i : Int) < (rs.length : Int) := by omega
        have HT : Hid ((rs.take (i + 1)).any tl = ((rs.take i).any tl || decide (1024 < (rs[i].length : Int)))) := by
          show (rs.take (i + 1)).any tl = _
          rw [List.take_succ_eq_append_getElem hlt, List.any_append]
          congr 1
          simp [tl]
          omega
        obtain ⟨b, off, c', a', k', ea, hb, hcell0, hsl⟩ := HS.out.get hlt
        injection ea with ea1 ea2 ea3
        subst ea1 ea3
        have hcell := HU3.out.cell hcell0
        clear hcell0 ea2 hsl
        have hb2 : (decide (256 < rs.length) || (rs.take i).any tl) = false ∨ (decide (256 < rs.length) || (rs.take i).any tl) = true := by
          cases (decide (256 < rs.length) || (rs.take i).any tl) <;> simp
        rcases hb2 with hb2 | hb2
        · have HB := Hid.of hb2
          rw [hb2]
          clear hb2
          generalize rs[i].length = nr at *
          go_wp2
          go_roundg (rs.length - (i + 1))
          case measure => omega
          case rel =>
            refine ⟨i + 1, by omega, by omega, by go_num, ?_, HU3.out⟩
            have h5 := HT.out
            have h6 := HB.out
            rw [Bool.or_eq_false_iff] at h6
            rw [h5, h6.1, h6.2]
            simp
        · have HB := Hid.of hb2
          rw [hb2]
          clear hb2
          go_wp2
          go_roundg (rs.length - (i + 1))
          case measure => omega
          case rel =>
            refine ⟨i + 1, by omega, by omega, by go_num, ?_, HU3.out⟩
            have h5 := HT.out
            have h6 := HB.out
            rw [h5, ← Bool.or_assoc, h6]
            simp
      · have hltz : ¬ (i : Int) < (rs.length : Int) := by omega
        have hi2 : i = rs.length := by omega
        subst hi2
        rw [List.take_length]
        have hlg : (decide (256 < rs.length) || rs.any tl) = true := by
          have := hg
          unfold lg at this
          simpa using this
        rw [hlg]
        have HC := Hid.of (cut_walk a c d k wb (HD.out.up HU3.out) hl2)
        go_wp2_with (go_at_call 8; refine (num_walk _ _).mono ?_; rintro e w9 ⟨rfl, h9⟩; obtain rfl := h9.symm)
        refine HC.out.mono ?_
        rintro e w3 ⟨u3, h3⟩
        have HU4 := Hid.of (HU3.out.trans u3)
        clear u3 HC hlg
        by_cases hkr : k < 0 ∨ 256 < k
        · rw [if_pos hkr] at h3
          subst h3
          clear hkr
          dsimp only
          go_wp2_with (go_at_call 8; refine (num_walk _ _).mono ?_; rintro e w9 ⟨rfl, h9⟩; obtain rfl := h9.symm)
          go_ret
          exact ⟨rfl, HU4.out⟩
        · rw [if_neg hkr] at h3
          rcases hct : ct k.toNat d with _ | rs2
          · rw [hct] at h3
            simp only at h3
            subst h3
            clear hkr
            dsimp only
            go_wp2_with (go_at_call 8; refine (num_walk _ _).mono ?_; rintro e w9 ⟨rfl, h9⟩; obtain rfl := h9.symm)
            go_ret
            exact ⟨rfl, HU4.out⟩
          · rw [hct] at h3
            simp only at h3
            obtain ⟨v3, rfl, h4⟩ := h3
            obtain ⟨e1, e2, e3⟩ := ct_some _ hct
            have hl3 : (rs2.length : Int) = k := by omega
            have hlg2 : lg rs2 = false := lg_iff.2 ⟨by omega, e3⟩
            have HJ2 := Hid.of (join_walk v3 rs2 w3 h4.sl (by omega))
            obtain ⟨a4, c4, rfl, _⟩ := h4.sl
            have HD2 := Hid.of (HD.out.up HU4.out)
            clear hct h4 hkr e2
            subst hl3
            dsimp only
            go_wp2_with (go_at_call 8; refine (num_walk _ _).mono ?_; rintro e w9 ⟨rfl, h9⟩; obtain rfl := h9.symm)
            refine HJ2.out.mono ?_
            rintro e w4 ⟨u4, h5⟩
            rw [if_neg (by rw [hlg2]; decide)] at h5
            obtain ⟨v5, rfl, h6⟩ := h5
            rw [e1] at h6
            obtain ⟨a6, c6, rfl⟩ := h6.len
            have hq1 := conv_sl h6.sl
            have hq2 := conv_sl (HD2.out.up u4)
            have HU5 := Hid.of (HU4.out.trans u4)
            clear h6 u4 HJ2 e1 e3 hlg2
            rw [show vs d = .string ⟨d.toArray⟩ from rfl] at hq1 hq2
            generalize (⟨d.toArray⟩ : ByteArray) = bs at hq1 hq2
            dsimp only
            go_wp2_with (go_at_call 8; refine (num_walk _ _).mono ?_; rintro e w9 ⟨rfl, h9⟩; obtain rfl := h9.symm)
            go_ret
            exact ⟨rfl, HU5.out⟩
  · rw [if_neg hg] at h2
    rw [Bool.not_eq_true] at hg
    obtain ⟨g1, g2⟩ := lg_iff.1 hg
    obtain ⟨v2, rfl, h3⟩ := h2
    obtain ⟨a2, c2, rfl⟩ := h3.len
    have hjl := jn_le rs g2
    have hjl2 : (jn rs).length ≤ 9223372036854775807 := by
      have h3 : rs.length * 1026 ≤ 256 * 1026 := Nat.mul_le_mul_right _ g1
      omega
    have HC1 := Hid.of (cut_walk a2 c2 (jn rs) (rs.length : Int) w2 h3.sl hjl2)
    have HC2 := fun w' => fun (u : Up w2 w') => Hid.of (cut_walk a2 c2 (jn rs) ((rs.length : Int) + 1) w' (h3.sl.up u) hjl2)
    have HX := Hid.of (And.intro (ct_jn rs g2) (ct_more rs g2))
    generalize (jn rs).length = nj at *
    clear h3 hjl hjl2
    dsimp only
    go_wp2_with (go_at_call 8; refine (num_walk _ _).mono ?_; rintro e w9 ⟨rfl, h9⟩; obtain rfl := h9.symm)
    refine HC1.out.mono ?_
    rintro e w3 ⟨u3, h3⟩
    rw [if_neg (by omega), Int.toNat_natCast, HX.out.1] at h3
    simp only at h3
    obtain ⟨v3, rfl, h4⟩ := h3
    have hsl := h4.sl
    obtain ⟨a4, c4, rfl, _⟩ := h4.sl
    have HC3 : Hid (Calls Try.prog 9 #[.slice a2 nj c2, .int .i64 ((rs.length : Int) + 1)] w3 fun e w' => Up w3 w' ∧ ∃ n : Int, n ≠ 0 ∧ e = .returned (.tuple #[.slice none 0 0, .int .i64 n])) := by
      refine (HC2 w3 u3).out.mono fun e w' ⟨u, h⟩ => ⟨u, ?_⟩
      by_cases hk : (rs.length : Int) + 1 < 0 ∨ 256 < (rs.length : Int) + 1
      · rw [if_pos hk] at h
        exact ⟨1, by decide, h⟩
      · rw [if_neg hk, show ((rs.length : Int) + 1).toNat = rs.length + 1 by omega, HX.out.2] at h
        exact ⟨102, by decide, h⟩
    have HU3 := Hid.of (HU2.out.trans u3)
    have HL := Hid.of hsl
    clear u3 HC1 HC2 HX h4 hsl HU2
    dsimp only
    go_wp2_with (go_at_call 8; refine (num_walk _ _).mono ?_; rintro e w9 ⟨rfl, h9⟩; obtain rfl := h9.symm)
    refine HC3.out.mono ?_
    rintro e w4 ⟨u4, n4, hn4, rfl⟩
    have hn4b : (n4 == 0) = false := by simpa using hn4
    have HU4 := Hid.of (HU3.out.trans u4)
    have HL4 := Hid.of (HL.out.up u4)
    clear u4 HC3 HU3 HL hn4
    dsimp only
    go_wp2_with (go_at_call 8; refine (num_walk _ _).mono ?_; rintro e w9 ⟨rfl, h9⟩; obtain rfl := h9.symm)
    clear hn4b
    go_loopg [13] rs.length (fun g s13 wr => ∃ i : Nat, i ≤ rs.length ∧ rs.length - i ≤ g ∧ s13 = .int .i64 (i : Int) ∧ Hid (Up w4 wr))
    case atStart => exact ⟨0, by omega, by omega, rfl, Up.refl _⟩
    case round =>
      obtain ⟨i, hi, hgi, rfl, hI⟩ := hrel
      obtain ⟨wb, hwb⟩ : ∃ wb, wb = wr := ⟨_, rfl⟩
      subst hwb
      by_cases hlt : i < rs.length
      · have hltz : (i : Int) < (rs.length : Int) := by omega
        obtain ⟨b1, o1, d1, p1, k1, ea, _, j1, s1⟩ := HL4.out.get hlt
        injection ea with ea1 ea2 ea3
        subst ea1 ea3
        obtain ⟨b2, o2, d2, p2, k2, eb, _, j2, s2⟩ := (HS.out.up HU4.out).get hlt
        injection eb with eb1 eb2 eb3
        subst eb1 eb3
        have j1' := hI.out.cell j1
        have j2' := hI.out.cell j2
        have hv1 : ∀ k, (convert 23 9 (.slice p1 rs[i].length k1)).run Try.prog (wb.drewN k) = .ok (vs rs[i]) (wb.drewN k) := fun k => conv_sl (s1.up (hI.out.drewN k))
        have hv2 : ∀ k, (convert 23 9 (.slice p2 rs[i].length k2)).run Try.prog (wb.drewN k) = .ok (vs rs[i]) (wb.drewN k) := fun k => conv_sl (s2.up (hI.out.drewN k))
        clear j1 j2 s1 s2 ea2 eb2
        rw [show vs rs[i] = .string ⟨rs[i].toArray⟩ from rfl] at hv1 hv2
        generalize (⟨rs[i].toArray⟩ : ByteArray) = bs at *
        generalize rs[i].length = m at *
        have HV := Hid.of (And.intro hv1 hv2)
        clear hv1 hv2
        go_wp2_with fail
        refine wp_region_quiet_lit (by kernel_rfl) (by kernel_rfl) ?_
        repeat (go_big_quiet_step (fail))
        refine BigFrame.wpQuiet_want (by kernel_rfl) (fun K hK => ?_)
        refine quiet_conv _ rfl _ bs rfl (fun w2 hw => ?_) ?_
        · obtain ⟨k, rfl⟩ := hw
          exact HV.out.1 _
        refine hK _ ?_
        clear hK K
        simp only [Act.put, List.setIfInBounds_toArray, List.set_cons_zero, List.set_cons_succ]
        repeat (go_big_quiet_step (fail))
        refine BigFrame.wpQuiet_want (by kernel_rfl) (fun K hK => ?_)
        refine quiet_conv _ rfl _ bs rfl (fun w2 hw => ?_) ?_
        · obtain ⟨k, rfl⟩ := hw
          exact HV.out.2 _
        refine hK _ ?_
        clear hK K
        simp only [Act.put, List.setIfInBounds_toArray, List.set_cons_zero, List.set_cons_succ]
        repeat (go_big_quiet_step (fail))
        refine wpQuiet_nil ?_
        intro w2 hw
        obtain ⟨k, rfl⟩ := hw
        go_wp2
        go_roundg (rs.length - (i + 1))
        case measure => omega
        case rel => exact ⟨i + 1, by omega, by omega, by go_num, hI.out.drewN _⟩
      · have hltz : ¬ (i : Int) < (rs.length : Int) := by omega
        have HU2 := Hid.of (HU4.out.trans hI.out)
        clear HU4 hI HL4
        go_wp2
        go_loopg [14, 15] rs.length (fun g s14 s15 wr => ∃ i : Nat, i ≤ rs.length ∧ rs.length - i ≤ g ∧ s15 = .int .i64 (i : Int) ∧ s14 = .bool (decide (256 < rs.length) || (rs.take i).any tl) ∧ Hid (Up w wr))
        case atStart => exact ⟨0, by omega, by omega, rfl, by simp; omega, HU2.out⟩
        case round =>
          obtain ⟨i, hi, hgi, rfl, rfl, HU3⟩ := hrel
          obtain ⟨wb, hwb⟩ : ∃ wb, wb = wr := ⟨_, rfl⟩
          subst hwb
          by_cases hlt : i < rs.length
          · have hltz : (i : Int) < (rs.length : Int) := by omega
            have HT : Hid ((rs.take (i + 1)).any tl = ((rs.take i).any tl || decide (1024 < (rs[i].length : Int)))) := by
              show (rs.take (i + 1)).any tl = _
              rw [List.take_succ_eq_append_getElem hlt, List.any_append]
              congr 1
              simp [tl]
              omega
            obtain ⟨b, off, c', a', k', ea, hb, hcell0, hsl⟩ := HS.out.get hlt
            injection ea with ea1 ea2 ea3
            subst ea1 ea3
            have hcell := HU3.out.cell hcell0
            clear hcell0 ea2 hsl
            have hb2 : (decide (256 < rs.length) || (rs.take i).any tl) = false ∨ (decide (256 < rs.length) || (rs.take i).any tl) = true := by
              cases (decide (256 < rs.length) || (rs.take i).any tl) <;> simp
            rcases hb2 with hb2 | hb2
            · have HB := Hid.of hb2
              rw [hb2]
              clear hb2
              generalize rs[i].length = nr at *
              go_wp2
              go_roundg (rs.length - (i + 1))
              case measure => omega
              case rel =>
                refine ⟨i + 1, by omega, by omega, by go_num, ?_, HU3.out⟩
                have h5 := HT.out
                have h6 := HB.out
                rw [Bool.or_eq_false_iff] at h6
                rw [h5, h6.1, h6.2]
                simp
            · have HB := Hid.of hb2
              rw [hb2]
              clear hb2
              go_wp2
              go_roundg (rs.length - (i + 1))
              case measure => omega
              case rel =>
                refine ⟨i + 1, by omega, by omega, by go_num, ?_, HU3.out⟩
                have h5 := HT.out
                have h6 := HB.out
                rw [h5, ← Bool.or_assoc, h6]
                simp
          · have hltz : ¬ (i : Int) < (rs.length : Int) := by omega
            have hi2 : i = rs.length := by omega
            subst hi2
            rw [List.take_length]
            have hlg : (decide (256 < rs.length) || rs.any tl) = false := by
              have := hg
              unfold lg at this
              simpa using this
            rw [hlg]
            have HC := Hid.of (cut_walk a c d k wb (HD.out.up HU3.out) hl2)
            go_wp2_with (go_at_call 8; refine (num_walk _ _).mono ?_; rintro e w9 ⟨rfl, h9⟩; obtain rfl := h9.symm)
            refine HC.out.mono ?_
            rintro e w3 ⟨u3, h3⟩
            have HU4 := Hid.of (HU3.out.trans u3)
            clear u3 HC hlg
            by_cases hkr : k < 0 ∨ 256 < k
            · rw [if_pos hkr] at h3
              subst h3
              clear hkr
              dsimp only
              go_wp2_with (go_at_call 8; refine (num_walk _ _).mono ?_; rintro e w9 ⟨rfl, h9⟩; obtain rfl := h9.symm)
              go_ret
              exact ⟨rfl, HU4.out⟩
            · rw [if_neg hkr] at h3
              rcases hct : ct k.toNat d with _ | rs2
              · rw [hct] at h3
                simp only at h3
                subst h3
                clear hkr
                dsimp only
                go_wp2_with (go_at_call 8; refine (num_walk _ _).mono ?_; rintro e w9 ⟨rfl, h9⟩; obtain rfl := h9.symm)
                go_ret
                exact ⟨rfl, HU4.out⟩
              · rw [hct] at h3
                simp only at h3
                obtain ⟨v3, rfl, h4⟩ := h3
                obtain ⟨e1, e2, e3⟩ := ct_some _ hct
                have hl3 : (rs2.length : Int) = k := by omega
                have hlg2 : lg rs2 = false := lg_iff.2 ⟨by omega, e3⟩
                have HJ2 := Hid.of (join_walk v3 rs2 w3 h4.sl (by omega))
                obtain ⟨a4, c4, rfl, _⟩ := h4.sl
                have HD2 := Hid.of (HD.out.up HU4.out)
                clear hct h4 hkr e2
                subst hl3
                dsimp only
                go_wp2_with (go_at_call 8; refine (num_walk _ _).mono ?_; rintro e w9 ⟨rfl, h9⟩; obtain rfl := h9.symm)
                refine HJ2.out.mono ?_
                rintro e w4 ⟨u4, h5⟩
                rw [if_neg (by rw [hlg2]; decide)] at h5
                obtain ⟨v5, rfl, h6⟩ := h5
                rw [e1] at h6
                obtain ⟨a6, c6, rfl⟩ := h6.len
                have hq1 := conv_sl h6.sl
                have hq2 := conv_sl (HD2.out.up u4)
                have HU5 := Hid.of (HU4.out.trans u4)
                clear h6 u4 HJ2 e1 e3 hlg2
                rw [show vs d = .string ⟨d.toArray⟩ from rfl] at hq1 hq2
                generalize (⟨d.toArray⟩ : ByteArray) = bs at hq1 hq2
                dsimp only
                go_wp2_with (go_at_call 8; refine (num_walk _ _).mono ?_; rintro e w9 ⟨rfl, h9⟩; obtain rfl := h9.symm)
                go_ret
                exact ⟨rfl, HU5.out⟩
end Go.Proofs.Ytngoedhddjakhaa
