import Derived.Test.YtfmdaollnjnhgaaDoorCff0
import Derived.Test.YtfmdaollnjnhgaaDoorCff1
import Derived.Test.YtfmdaollnjnhgaaDoorCft0
import Derived.Test.YtfmdaollnjnhgaaDoorCft1
import Derived.Test.YtfmdaollnjnhgaaDoorMw
import Derived.Test.YtfmdaollnjnhgaaDoorNb
import Derived.Test.YtfmdaollnjnhgaaDoorLd
namespace Go.Proofs.YtfmdaollnjnhgaaDoor
open Go.RowKit Go.Shelf TextNum ModNum
theorem SplitR_walk (s : ByteArray) (w : World) : Calls Tryd.prog 45 #[.string s] w (SR s.data.toList w) := by
  by_cases hbad : 128 < s.size ∨ s.data.toList.head? ≠ some 118
  · exact Split_bad s w hbad
  · have hs : s.size ≤ 128 := by rcases Nat.lt_or_ge 128 s.size with h | h; exact absurd (.inl h) hbad; exact h
    have hh : s.data.toList.head? = some 118 := Decidable.not_not.1 (fun h => hbad (.inr h))
    cases hinc : sfx INC (s.data.toList.drop 1) with
    | false =>
      by_cases h45 : (45 : UInt8) ∈ vcore s.data.toList
      · exact Split_f1 s w hs hh hinc h45
      · exact Split_f0 s w hs hh hinc h45
    | true =>
      by_cases h45 : (45 : UInt8) ∈ vcore s.data.toList
      · exact Split_t1 s w hs hh hinc h45
      · exact Split_t0 s w hs hh hinc h45
theorem cmpV_on {a b : List UInt8} {q : Prt} (ha : ver a = some q) (hb : ver b = none) : cmpV a b = 1 := by
  obtain ⟨n0, n1, n2, h2⟩ := vp_n a
  have hva : vp a = q := by unfold vp; rw [ha]; rfl
  have hvb : vp b = zp := by unfold vp; rw [hb]; rfl
  rw [hva] at h2
  have hk := (ver_num ha).2
  unfold vok at hk
  rw [h2] at hk
  simp only [Bool.and_eq_true, List.all_cons] at hk
  have hn0 := hk.1.1.1
  have hlen : 0 < n0.length := by
    unfold isNum at hn0
    simp only [Bool.and_eq_true, Bool.or_eq_true, beq_iff_eq, decide_eq_true_eq] at hn0
    omega
  have hu : cmpU n0 [] = 1 := by
    unfold cmpU cmpN
    simp [hlen]
  show cmpP (vp a) (vp b) = 1
  unfold cmpP
  rw [hva, hvb, h2]
  rw [show zp.n = [[], [], []] from rfl, cmp3_eq, hu]
  rfl
theorem ver_bounds {l : List UInt8} {q : Prt} (h : ver l = some q) : (∀ x ∈ q.n, x.length ≤ 1048576) ∧ q.ws.length ≤ 1048576 ∧ ∀ x ∈ q.ws, isWrd x = true ∧ x.length ≤ 1048576 := by
  have hl := (ver_len h).1
  have hk := (ver_num h).2
  have hq : q = vprt l := by
    unfold ver at h
    split at h
    · cases h
    · split at h
      · exact (Option.some.inj h).symm
      · cases h
  have hvc : (vcore l).length ≤ 128 := by
    have h5 : (l.drop 1).length ≤ 128 := by rw [List.length_drop]; omega
    have h6 : ∀ p l : List UInt8, (tsf p l).length ≤ l.length := fun p l => by
      unfold tsf
      by_cases h : sfx p l = true
      · rw [if_pos h]; exact List.length_take_le' _ _
      · rw [if_neg h]; exact Nat.le_refl _
    exact Nat.le_trans (h6 INC _) h5
  have hbh : (bhd 45 (vcore l)).length ≤ 128 := by
    by_cases h45 : (45 : UInt8) ∈ vcore l
    · have := congrArg List.length (cut_eq h45)
      simp only [List.length_append, List.length_cons] at this
      omega
    · rw [bhd_miss h45]; simp
  have hws : q.ws.length ≤ 1048576 ∧ ∀ x ∈ q.ws, x.length ≤ 1048576 := by
    rw [hq]
    show (if 45 ∈ vcore l then pcs 46 (bhd 45 (vcore l)) else []).length ≤ _ ∧ ∀ x ∈ (if 45 ∈ vcore l then pcs 46 (bhd 45 (vcore l)) else []), _
    split
    · refine ⟨by have := pcs_cnt 46 (bhd 45 (vcore l)); omega, fun x hx => ?_⟩
      have := pcs_sub (c := 46) hx
      omega
    · exact ⟨by simp, fun x hx => by cases hx⟩
  refine ⟨fun x hx => ?_, hws.1, fun x hx => ⟨?_, hws.2 x hx⟩⟩
  · rw [hq] at hx
    have := pcs_sub (c := 46) (show x ∈ pcs 46 (ahd 45 (vcore l)) from hx)
    have h2 := ahd_le 45 (vcore l)
    omega
  · unfold vok at hk
    simp only [Bool.and_eq_true] at hk
    exact List.all_eq_true.1 hk.1.2 x hx
end Go.Proofs.YtfmdaollnjnhgaaDoor
namespace Go.Proofs.YtfmdaollnjnhgaaDoor
open Go.RowKit Go.Shelf TextNum ModNum
set_option maxRecDepth 100000 in
set_option maxHeartbeats 4000000 in
theorem CompareR_walk (a b : ByteArray) (w : World) : Calls Tryd.prog 30 #[.string a, .string b] w fun e w' => e = .returned (.int .i64 (cmpV a.data.toList b.data.toList)) ∧ Up w w' := by
  have HSa := fun w' => Hid.of (SplitR_walk a w')
  have HSb := fun w' => Hid.of (SplitR_walk b w')
  go_enter Tryd.func30, Tryd.ntmps30
  go_wp2_with fail
  refine (HSa w).out.mono ?_
  rintro e w1 ⟨m0, m1, m2, va, i1, rfl, ha, ⟨a1, l1, c1, rfl⟩, u1⟩
  have HU1 := Hid.of u1
  have HVa := Hid.of ha
  clear u1 ha HSa
  dsimp only
  have HA1 := Hid.of (at_new w1 79 z5)
  have HW1 := Hid.of (HU1.out.alloc (.cells z5.toArray 79))
  have HZ1 := Hid.of ((Up.refl w1).alloc (.cells z5.toArray 79))
  go_wp2_with (with_reducible show wpList _ _ _ ({ dst := _, op := Op.store 79 _ _, type := _, pos := _, after := _, guard := _ } :: _) _ _; refine Shut.out ?_)
  show wpList _ _ _ _ _ _
  rw [z5lit]
  generalize w1.alloc (.cells z5.toArray 79) = W1 at *
  refine wpList_store_at rfl _ _ _ rfl w1.heap.size HA1.out [.string ⟨m0.toArray⟩, .string ⟨m1.toArray⟩, .string ⟨m2.toArray⟩, .slice a1 l1 c1, .bool i1] rfl rfl rfl (by kernel_rfl) (one5 _ _ _ _ _ _ _) fun x1 hx1 hg1 => ?_
  have HX1 := Hid.of hx1
  have HXU := Hid.of (HW1.out.by hg1 (fun g hg => by have := HU1.out.size; injection hg with hg; omega))
  have HXS := Hid.of (HZ1.out.by hg1 (fun g hg => by injection hg with hg; omega))
  clear hx1 hg1 HA1 HW1 HZ1
  simp only [Act.put]
  go_wp2_with fail
  refine (HSb x1).out.mono ?_
  rintro e w2 ⟨n0, n1, n2, vb, i2, rfl, hb, ⟨a2, l2, c2, rfl⟩, u2⟩
  have HU2 := Hid.of (HXU.out.trans u2)
  have HXa := Hid.of (HX1.out.up u2)
  have HSU := Hid.of (HXS.out.trans u2)
  have HVb := Hid.of hb
  have HLt := Hid.of (lt_of_at HXa.out)
  clear u2 hb HSb HX1 HXU HXS
  dsimp only
  have HA2 := Hid.of (at_new w2 79 z5)
  have HA1 := Hid.of (HXa.out.up ((Up.refl w2).alloc (.cells z5.toArray 79)))
  have HW2 := Hid.of (HU2.out.alloc (.cells z5.toArray 79))
  have HZ1 := Hid.of (HSU.out.alloc (.cells z5.toArray 79))
  have HZ2 := Hid.of ((Up.refl w2).alloc (.cells z5.toArray 79))
  go_wp2_with (with_reducible show wpList _ _ _ ({ dst := _, op := Op.store 79 _ _, type := _, pos := _, after := _, guard := _ } :: _) _ _; refine Shut.out ?_)
  show wpList _ _ _ _ _ _
  rw [z5lit]
  generalize w2.alloc (.cells z5.toArray 79) = W2 at *
  refine wpList_store_at rfl _ _ _ rfl w2.heap.size HA2.out [.string ⟨n0.toArray⟩, .string ⟨n1.toArray⟩, .string ⟨n2.toArray⟩, .slice a2 l2 c2, .bool i2] rfl rfl rfl (by kernel_rfl) (one5 _ _ _ _ _ _ _) fun x2 hx2 hg2 => ?_
  have HY2 := Hid.of hx2
  have HY1 := Hid.of (HA1.out.by hg2 (by intro h; have := HLt.out; injection h with h; omega))
  have HU := Hid.of (HW2.out.by hg2 (fun g hg => by have := HU2.out.size; injection hg with hg; omega))
  have HSa := Hid.of (HZ1.out.by hg2 (fun g hg => by have := HSU.out.size; injection hg with hg; omega))
  have HSb := Hid.of (HZ2.out.by hg2 (fun g hg => by injection hg with hg; omega))
  have HNe := Hid.of (show w1.heap.size < w2.heap.size from HLt.out)
  clear hx2 hg2 HA1 HA2 HW2 HZ1 HZ2 HXa HSU HU1 HU2 HLt
  simp only [Act.put]
  cases hva : ver a.data.toList with
  | none =>
    cases hvb : ver b.data.toList with
    | none =>
      have HR := Hid.of (cmpV_nn hva hvb)
      simp only [Option.isSome_none]
      clear hva hvb
      go_wp2
      go_ret
      rw [HR.out]
      exact ⟨rfl, HU.out⟩
    | some qb =>
      have HR := Hid.of (cmpV_no hva hvb)
      simp only [Option.isSome_none, Option.isSome_some]
      clear hva hvb
      go_wp2
      go_ret
      rw [HR.out]
      exact ⟨rfl, HU.out⟩
  | some qa =>
    cases hvb : ver b.data.toList with
    | none =>
      have HR := Hid.of (cmpV_on hva hvb)
      simp only [Option.isSome_none, Option.isSome_some]
      clear hva hvb
      go_wp2
      go_ret
      rw [HR.out]
      exact ⟨rfl, HU.out⟩
    | some qb =>
      obtain ⟨ea, sa⟩ := HVa.out qa hva
      obtain ⟨eb, sb⟩ := HVb.out qb hvb
      have hba := ver_bounds hva
      have hbb := ver_bounds hvb
      obtain ⟨na, wa, ia⟩ := qa
      obtain ⟨nb, wb', ib⟩ := qb
      simp only at ea eb sa sb hba hbb
      subst ea eb
      have HS1 := Hid.of (sa.up HSa.out)
      have HS2 := Hid.of (sb.up HSb.out)
      have HB := Hid.of (And.intro hba hbb)
      have HR := Hid.of (show cmpV a.data.toList b.data.toList = if cmp3 [m0, m1, m2] [n0, n1, n2] = 0 then cmpWs wa wb' else cmp3 [m0, m1, m2] [n0, n1, n2] by
        unfold cmpV
        rw [hva, hvb]
        rfl)
      simp only [Option.isSome_some]
      clear hva hvb sa sb hba hbb HVa HVb HSa HSb
      go_wp2
      go_loopw [9, 10] (fun v9 _ wr => ∃ i : Nat, v9 = .int .i64 (i : Int) ∧ i ≤ 3 ∧ Hid (cmp3 [m0, m1, m2] [n0, n1, n2] = cmp3 ([m0, m1, m2].drop i) ([n0, n1, n2].drop i) ∧ Up x2 wr)) (fun v9 _ _ => 3 - (intOf v9).toNat)
      case atStart => exact ⟨0, rfl, by omega, rfl, Up.refl _⟩
      case round =>
        obtain ⟨i, rfl, hi, hI⟩ := hrel
        obtain ⟨wb, hwb⟩ : ∃ wb, wb = wr := ⟨_, rfl⟩
        subst hwb
        by_cases hlt : i < 3
        · have hltz : (i : Int) < 3 := by omega
          obtain ⟨x, hx, hx2⟩ := pc_get (n0 := m0) (n1 := m1) (n2 := m2) (v := .slice a1 l1 c1) (inc := i1) hlt
          obtain ⟨y, hy, hy2⟩ := pc_get (n0 := n0) (n1 := n1) (n2 := n2) (v := .slice a2 l2 c2) (inc := i2) hlt
          have hcx := (HY1.out.up hI.out.2).cell hx2
          have hcy := (HY2.out.up hI.out.2).cell hy2
          have HE := Hid.of (hI.out.1.trans (cmp3_step hx hy))
          have HC := fun w' => Hid.of (numbers_walk ⟨x.toArray⟩ ⟨y.toArray⟩ (by rw [size_str]; exact HB.out.1.1 x (List.mem_of_getElem? hx)) w')
          simp only at HC
          clear hx hx2 hy hy2
          by_cases hz : cmpU x y = 0
          · have HE2 := Hid.of (HE.out.trans (if_pos hz))
            rw [hz] at HC
            clear hz
            go_wp2
            go_region_with (go_at_call 46; refine (HC _).out.mono ?_; rintro e w5 ⟨rfl, u5⟩; have H5 := Hid.of (Up.trans (by first | exact hI.out.2.drew | exact hI.out.2) u5); clear u5)
            all_goals go_wp2
            all_goals go_roundw
            all_goals first | exact ⟨i + 1, by go_num, by omega, HE2.out, H5.out⟩ | (simp [intOf]; omega)
          · have HE2 := Hid.of (HE.out.trans (if_neg hz))
            have hzz : (cmpU x y != 0) = true := by rw [bne_iff_ne]; exact hz
            have HR2 := Hid.of (show cmpV a.data.toList b.data.toList = cmpU x y by rw [HR.out, HE2.out, if_neg hz])
            generalize cmpU x y = cu at *
            clear hz
            go_wp2
            go_region_with (go_at_call 46; refine (HC _).out.mono ?_; rintro e w5 ⟨rfl, u5⟩; have H5 := Hid.of (Up.trans (by first | exact hI.out.2.drew | exact hI.out.2) u5); clear u5)
            all_goals go_wp2
            all_goals go_ret
            all_goals rw [HR2.out]
            all_goals exact ⟨rfl, HU.out.trans H5.out⟩
        · have hltz : ¬ (i : Int) < 3 := by omega
          have HR2 := Hid.of (show cmpV a.data.toList b.data.toList = cmpWs wa wb' by
            have h2 := hI.out.1
            have h3 : i = 3 := by omega
            rw [h3] at h2
            have h4 : cmp3 [m0, m1, m2] [n0, n1, n2] = 0 := h2
            rw [HR.out, if_pos h4])
          have hc1 := (HY1.out.up hI.out.2).cell (i := 3) rfl
          have hc2 := (HY2.out.up hI.out.2).cell (i := 3) rfl
          have HL := Hid.of (releases_walk _ _ wa wb' wb (HS1.out.up hI.out.2) (HS2.out.up hI.out.2) HB.out.1.2.1 HB.out.2.2.1 HB.out.1.2.2 HB.out.2.2.2)
          generalize cmpWs wa wb' = cw at *
          go_wp2_with fail
          refine (HL.out).mono ?_
          rintro e w9 ⟨rfl, u9⟩
          have H9 := Hid.of (hI.out.2.trans u9)
          have Hu9 := Hid.of u9
          clear u9
          dsimp only
          go_wp2
          go_ret
          rw [HR2.out]
          exact ⟨rfl, HU.out.trans H9.out⟩
set_option maxRecDepth 100000 in
theorem compares_walk (a b : ByteArray) (w : World) (hG : GR w) : Calls Tryd.prog 10 #[.string a, .string b] w fun e w' => e = .returned (.bool true) ∧ Up w w' := by
  have HK := Hid.of (known_walk w hG)
  have HP1 := fun w' => fun (u : Up w w') => Hid.of (Compare_walk a b w' (hG.up u).toGM)
  have HP2 := fun w' => fun (u : Up w w') => Hid.of (Compare_walk b a w' (hG.up u).toGM)
  have HQ1 := fun w' => Hid.of (CompareR_walk a b w')
  have HQ2 := fun w' => Hid.of (CompareR_walk b a w')
  generalize cmpV a.data.toList b.data.toList = x at *
  generalize cmpV b.data.toList a.data.toList = y at *
  clear hG
  go_enter Tryd.func10, Tryd.ntmps10
  go_wp2_with fail
  refine (HK.out).mono ?_
  rintro e w1 ⟨rfl, u1⟩
  have H1 := Hid.of (u1)
  have Hu1 := Hid.of u1
  clear u1
  dsimp only
  go_wp2_with fail
  refine ((HP1 _ H1.out).out).mono ?_
  rintro e w2 ⟨rfl, u2⟩
  have H2 := Hid.of (H1.out.trans u2)
  have Hu2 := Hid.of u2
  clear u2
  dsimp only
  go_wp2_with fail
  refine ((HQ1 _).out).mono ?_
  rintro e w3 ⟨rfl, u3⟩
  have H3 := Hid.of (H2.out.trans u3)
  have Hu3 := Hid.of u3
  clear u3
  dsimp only
  go_wp2_with fail
  refine ((HP2 _ H3.out).out).mono ?_
  rintro e w4 ⟨rfl, u4⟩
  have H4 := Hid.of (H3.out.trans u4)
  have Hu4 := Hid.of u4
  clear u4
  dsimp only
  go_wp2_with fail
  refine ((HQ2 _).out).mono ?_
  rintro e w5 ⟨rfl, u5⟩
  have H5 := Hid.of (H4.out.trans u5)
  have Hu5 := Hid.of u5
  clear u5
  dsimp only
  go_wp2
  go_ret
  exact ⟨by first | rfl | simp, H5.out⟩
end Go.Proofs.YtfmdaollnjnhgaaDoor
namespace Go.Proofs.YtfmdaollnjnhgaaDoor
open Go.RowKit TextNum ModNum Go.Lib
theorem glCompares {W : World} (h : laidMetH Tryd.prog Rows.modverComparesRow.laid W) (hs : W.ShapedOpen Tryd.prog) : GR W := by
  rw [MakeChecks.laidMetH_plain _ _ _ (by kernel_rfl)] at h
  exact ⟨⟨chars_of (laidMet.reads h (by simp [Rows.modverComparesRow])), max_of hs⟩, res_of (laidMet.reads h (by simp [Rows.modverComparesRow]))⟩
end Go.Proofs.YtfmdaollnjnhgaaDoor
