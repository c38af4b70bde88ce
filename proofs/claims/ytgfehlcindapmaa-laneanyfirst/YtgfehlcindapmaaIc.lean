import Derived.Test.YtgfehlcindapmaaIb
namespace Go.Proofs.Ytgfehlcindapmaa
open Go.RowKit Go.Conc TextNum
/-- what is known of the list while it is made -/
structure AL (wr : World) (B : Nat) (v : Value) (is : List Nat) : Prop where
  io : IOwn wr B v is
  l8 : ∀ i ∈ is, i < 8
  nd : ∀ i, is.count i ≤ 1
set_option maxRecDepth 100000 in
set_option maxHeartbeats 8000000 in
theorem LaneAnyFirst_walk (w : World) (v1 v2 : Value) (zs : List Int) (bs : List Bool) (z : Int) (h1 : IL w v1 zs) (h2 : BL w v2 bs) : Calls Try.prog 6 #[v1, v2, .int .i64 z] w fun e w' => e = .returned (.bool true) ∧ Up w w' := by
  obtain ⟨i0, hi0, hz0, hz1, hz2⟩ := info_parts infoInt
  obtain ⟨za, zc, rfl, hzc, hzl⟩ := h1
  obtain ⟨ba, bc, rfl, hbc, hbl⟩ := h2
  have HZ := Hid.of hzl
  have HB := Hid.of hbl
  obtain ⟨zn, hzn⟩ : ∃ n, zs.length = n := ⟨_, rfl⟩
  have HZN := Hid.of (And.intro hzn trivial)
  obtain ⟨bn, hbn⟩ : ∃ n, bs.length = n := ⟨_, rfl⟩
  have HBN := Hid.of (And.intro hbn trivial)
  rw [hzn] at hzc ⊢
  rw [hbn] at hbc ⊢
  clear hzl hbl hzn hbn
  have hN := New_yes w 8 nilS [] (by omega) (by omega) (fts_nil w) rfl
  go_enter Try.func6, Try.ntmps6
  go_wp2_with fail
  refine hN.mono ?_
  rintro e W3 ⟨S, rfl, h1, h2, h3, h4, h5, h6, _⟩
  have HJ0 := Hid.of (LJ.new h1 h2 (h3.trans XA_new.symm) h4 h5 h6)
  clear h1 h2 h3 h4 h5 h6 hN
  obtain ⟨nb, hnb⟩ : ∃ nb, S.nb = nb := ⟨_, rfl⟩
  rw [hnb]
  have HNB0 := Hid.of (And.intro hnb trivial)
  clear hnb
  dsimp only
  go_wp2_with (go_at_call 13; refine (num_walk _ _).mono ?_; rintro _ w9 ⟨rfl, h9⟩; obtain rfl := h9.symm; clear h9; dsimp only)
  go_loopw [9, 10, 11, 12, 13] (fun v9 v10 _ _ _ wr => ∃ j : Nat, v10 = .int .i64 (j : Int) ∧ j ≤ zn ∧ j ≤ 64 ∧ Hid (∃ is, AL wr W3.heap.size v9 is ∧ is.length ≤ j ∧ (0 < j → is ≠ []) ∧ Up W3 wr)) (fun _ v10 _ _ _ _ => zn - (intOf v10).toNat)
  case atStart => exact ⟨0, rfl, by omega, by omega, Hid.of ⟨[], ⟨World.ownsRow_nil _ _ _ _, fun i hi => (by cases hi), fun i => (by simp)⟩, by simp, fun h => (by omega), Up.refl _⟩⟩
  case round =>
    obtain ⟨j, rfl, hjn, hj64, hR⟩ := hrel
    by_cases hgo : j < zn ∧ j < 64
    · have hltz : (j : Int) < (zn : Int) := by omega
      have hltz2 : (j : Int) < 64 := by omega
      have hjw : IntKind.i64.wrap ((j : Int) + 1) = (j : Int) + 1 := by rw [IntKind.wrap_i64]; omega
      have hjl : j < zs.length := by rw [HZN.out.1]; exact hgo.1
      obtain ⟨is, hAL, hisl, hne, hU⟩ := hR.out
      have HAL := Hid.of hAL
      have HU := Hid.of hU
      obtain ⟨x, hx⟩ : ∃ x, zs[j] = x := ⟨_, rfl⟩
      obtain ⟨b, off, rfl, c0⟩ := HZ.out j x (by rw [List.getElem?_eq_getElem hjl, hx])
      have c1 := (HJ0.out.up.trans hU).cell c0
      have hzcz : (zn : Int) ≤ (zc : Int) := by omega
      obtain ⟨la, lc, rfl⟩ := hAL.io.shape
      obtain ⟨m, hm⟩ : ∃ m, is.length = m := ⟨_, rfl⟩
      have HM := Hid.of (And.intro hm trivial)
      rw [hm] at hisl HAL ⊢
      clear hR hAL hU hx c0 hgo hjl hm hne
      go_wp2_with fail
      refine (below_walk wr x 8 (by omega) (by omega)).mono ?_
      rintro e w9 ⟨k, rfl, hk8, h9⟩
      obtain rfl := h9.symm
      clear h9 c1
      dsimp only
      go_wp2
      go_loopw [12, 13] (fun v12 v13 w2 => ∃ q : Nat, v13 = .int .i64 (q : Int) ∧ q ≤ m ∧ v12 = .bool ((is.take q).any (· == k)) ∧ Hid (w2 = wr)) (fun _ v13 _ => m - (intOf v13).toNat)
      case atStart => exact ⟨0, rfl, by omega, rfl, Hid.of rfl⟩
      case round =>
        obtain ⟨q, rfl, hqm, rfl, hw2⟩ := hrel
        obtain rfl := hw2.out
        clear hw2
        by_cases hlt : q < m
        · have hqz : (q : Int) < (m : Int) := by omega
          have hqw : IntKind.i64.wrap ((q : Int) + 1) = (q : Int) + 1 := by rw [IntKind.wrap_i64]; omega
          have hql : q < is.length := by rw [HM.out.1]; exact hlt
          obtain ⟨y, hy⟩ : ∃ y, is[q] = y := ⟨_, rfl⟩
          obtain ⟨g, cc, e, hcc, c0⟩ := HAL.out.io.get hql hy
          rw [HM.out.1] at e hcc
          obtain ⟨rfl, rfl⟩ : la = some ⟨g, 0, none⟩ ∧ lc = cc := by
            injection e with e1 e2 e3
            exact ⟨e1, e3⟩
          have hccz : (m : Int) ≤ (lc : Int) := by omega
          have HT := Hid.of (show (is.take (q + 1)).any (· == k) = ((is.take q).any (· == k) || (y == k)) by rw [List.take_succ_eq_append_getElem hql, hy, List.any_append]; simp)
          clear e hy hcc
          cases hb : (is.take q).any (· == k) with
          | true =>
            rw [hb] at HT
            clear hb
            go_wp2
            go_roundw
            case rel => exact ⟨q + 1, by simp, by omega, by rw [HT.out]; rfl, Hid.of trivial⟩
            case measure => simp [intOf]; omega
          | false =>
            rw [hb] at HT
            clear hb
            by_cases hyk : y = k
            · have hykz : (y : Int) = (k : Int) := by omega
              rw [show (y == k) = true by simpa using hyk] at HT
              clear hyk
              go_wp2
              go_roundw
              case rel => exact ⟨q + 1, by simp, by omega, by rw [HT.out]; rfl, Hid.of trivial⟩
              case measure => simp [intOf]; omega
            · have hykz : ¬ (y : Int) = (k : Int) := by omega
              rw [show (y == k) = false by simpa using hyk] at HT
              clear hyk
              go_wp2
              go_roundw
              case rel => exact ⟨q + 1, by simp, by omega, by rw [HT.out]; congr 1; simp; omega, Hid.of trivial⟩
              case measure => simp [intOf]; omega
        · have hqz : ¬ (q : Int) < (m : Int) := by omega
          obtain rfl : q = m := by omega
          rw [show is.take q = is by rw [← HM.out.1, List.take_length]]
          cases hb : is.any (· == k) with
          | true =>
            have HY := Hid.of (show is ≠ [] from fun e => by rw [e] at hb; cases hb)
            clear hb
            go_wp2
            go_roundw
            case rel => exact ⟨j + 1, by simp, by omega, by omega, Hid.of ⟨is, HAL.out, by have := HM.out.1; omega, fun _ e => HY.out e, HU.out⟩⟩
            case measure => simp [intOf]; omega
          | false =>
            have HK := Hid.of (show k ∉ is from fun hk => by
              have := List.any_eq_false.1 hb k hk
              simp at this)
            clear hb
            have HU2 := Hid.of ((Up.refl wr).alloc (.cells #[.int .i64 (k : Int)] 3))
            have HA2 := Hid.of (at_new wr 3 [.int .i64 (k : Int)])
            go_wp2_with (with_reducible show wpList _ _ _ ({ dst := _, op := Op.call { callee := Callee.builtin Builtin.append, args := _, argTypes := _ }, type := _, pos := _, after := _, guard := _ } :: _) _ _; refine Shut.out ?_)
            show wpList _ _ _ _ _ _
            refine wpList_append_own _ rfl _ _ 51 rfl W3.heap.size 3 i0 (.int .i64 0) 1 8 Try.underlying51 hi0 hz0 hz1 hz2 rfl (by decide) (.slice la q lc) (is).length (ivs is) rfl (ow_up HAL.out.io HU2.out) ⟨wr.heap.size, 0, none⟩ 1 1 [.int .i64 (k : Int)] rfl rfl (fun j u hu => by rw [Addr.add_lit, Nat.zero_add]; exact HA2.out.cell hu) (fun u hu => by obtain rfl := List.mem_singleton.1 hu; rfl) (by have := HM.out.1; simp only [maxLen]; omega) (by have := HM.out.1; omega) (HU.out.trans HU2.out).size ?_
            intro v5 w5 o5 g5 _
            have HN := Hid.of (show AL w5 W3.heap.size v5 (is ++ [k]) ∧ Up W3 w5 from ⟨⟨by
              rw [IOwn, List.length_append, show ivs (is ++ [k]) = ivs is ++ [.int .i64 (k : Int)] by simp [ivs]]
              exact o5, fun i hi => by
              rcases List.mem_append.1 hi with hi | hi
              · exact HAL.out.l8 i hi
              · obtain rfl := List.mem_singleton.1 hi
                exact hk8, fun i => by
              rw [List.count_append]
              by_cases e : k = i
              · subst e
                rw [List.count_eq_zero_of_not_mem HK.out]
                simp
              · have := HAL.out.nd i
                simp [e]
                exact this⟩, (HU.out.trans HU2.out).by g5 (fun g hg => (HAL.out.io.lt g hg).1)⟩)
            clear o5 g5
            simp only [Act.put, List.setIfInBounds_toArray, List.set_cons_zero, List.set_cons_succ]
            go_wp2
            go_roundw
            case rel => exact ⟨j + 1, by simp, by omega, by omega, Hid.of ⟨_, HN.out.1, by rw [List.length_append, HM.out.1, List.length_singleton]; omega, fun _ => (by simp), HN.out.2⟩⟩
            case measure => simp [intOf]; omega
    · obtain ⟨is, hAL, hisl, hne, hU⟩ := hR.out
      obtain ⟨la, lc, rfl⟩ := hAL.io.shape
      have HAL := Hid.of hAL
      have HU := Hid.of hU
      have HNE := Hid.of hne
      obtain ⟨m, hm⟩ : ∃ m, is.length = m := ⟨_, rfl⟩
      have HM := Hid.of (And.intro hm trivial)
      rw [hm] at hisl HAL ⊢
      clear hR hAL hU hm hne
      by_cases hm0 : m = 0
      · subst hm0
        have hj0 : j = 0 := by
          rcases Nat.eq_zero_or_pos j with h | h
          · exact h
          · exact absurd (List.eq_nil_of_length_eq_zero HM.out.1) (HNE.out h)
        subst hj0
        have hltz : ¬ (0 : Int) < (zn : Int) := by omega
        obtain rfl : is = [] := List.eq_nil_of_length_eq_zero HM.out.1
        clear HNE HM
        have HU2 := Hid.of ((Up.refl wr).alloc (.cells #[.int .i64 5] 3))
        have HA2 := Hid.of (at_new wr 3 [.int .i64 5])
        go_wp2_with (with_reducible show wpList _ _ _ ({ dst := _, op := Op.call { callee := Callee.builtin Builtin.append, args := _, argTypes := _ }, type := _, pos := _, after := _, guard := _ } :: _) _ _; refine Shut.out ?_)
        show wpList _ _ _ _ _ _
        refine wpList_append_own _ rfl _ _ 51 rfl W3.heap.size 3 i0 (.int .i64 0) 1 8 Try.underlying51 hi0 hz0 hz1 hz2 rfl (by decide) (.slice la 0 lc) ([]).length (ivs []) rfl (ow_up HAL.out.io HU2.out) ⟨wr.heap.size, 0, none⟩ 1 1 [.int .i64 5] rfl rfl (fun j u hu => by rw [Addr.add_lit, Nat.zero_add]; exact HA2.out.cell hu) (fun u hu => by obtain rfl := List.mem_singleton.1 hu; rfl) (by have := (show ([] : List Nat).length = 0 from rfl); simp only [maxLen]; omega) (by have := (show ([] : List Nat).length = 0 from rfl); omega) (HU.out.trans HU2.out).size ?_
        intro v5 w5 o5 g5 _
        have HN := Hid.of (show AL w5 W3.heap.size v5 [5] ∧ Up W3 w5 from ⟨⟨o5, fun i hi => by
          obtain rfl := List.mem_singleton.1 hi
          omega, fun i => by
          rw [List.count_cons, List.count_nil]
          split <;> omega⟩, (HU.out.trans HU2.out).by g5 (fun g hg => (HAL.out.io.lt g hg).1)⟩)
        obtain ⟨la, lc, rfl⟩ := HN.out.1.io.shape
        clear o5 g5 HU2 HA2 HAL HU
        have HAL := Hid.of HN.out.1
        have HU := Hid.of HN.out.2
        clear HN
        simp only [Act.put, List.setIfInBounds_toArray, List.set_cons_zero, List.set_cons_succ]
        obtain ⟨m, hm⟩ : ∃ m, ([5] : List Nat).length = m := ⟨_, rfl⟩
        rw [hm] at HAL ⊢
        have hm1 : 1 ≤ m := by rw [← hm]; simp
        have hml : m ≤ 64 := by rw [← hm]; simp
        have HM := Hid.of (And.intro hm trivial)
        clear hm
        obtain ⟨is, his⟩ : ∃ is : List Nat, is = [5] := ⟨_, rfl⟩
        rw [← his] at HAL HM
        clear his
        go_wp2
        have HL0 := Hid.of (show ∃ S, LJ w w5 S (XA 0 ((is.take 0).filter (hbs bs))) 0 ∧ S.nb = nb ∧ AL w5 W3.heap.size (.slice la m lc) is from ⟨S, HJ0.out.up' HU.out, HNB0.out.1, HAL.out⟩)
        clear HJ0 HNB0 HU HAL
        go_loopw [14, 15, 16] (fun v14 v15 _ wr => ∃ j : Nat, v15 = .int .i64 (j : Int) ∧ j ≤ m ∧ v14 = .int .i64 (wnt ((is.take j).filter (hbs bs))) ∧ Hid (∃ S, LJ w wr S (XA 0 ((is.take j).filter (hbs bs))) j ∧ S.nb = nb ∧ AL wr W3.heap.size (.slice la m lc) is)) (fun _ v15 _ _ => m - (intOf v15).toNat)
        case atStart => exact ⟨0, rfl, by omega, rfl, HL0⟩
        case round =>
          clear HL0
          obtain ⟨j, rfl, hjm, rfl, hR⟩ := hrel
          obtain ⟨S1, hJ1, hnb1, hAL1⟩ := hR.out
          have HJ := Hid.of hJ1
          have HNB := Hid.of (And.intro hnb1 trivial)
          have HAL2 := Hid.of hAL1
          clear hR hJ1 hnb1 hAL1
          by_cases hlt : j < m
          · have hjz : (j : Int) < (m : Int) := by omega
            have hjw : IntKind.i64.wrap ((j : Int) + 1) = (j : Int) + 1 := by rw [IntKind.wrap_i64]; omega
            have hjl : j < is.length := by rw [HM.out.1]; exact hlt
            obtain ⟨k, hk⟩ : ∃ k, is[j] = k := ⟨_, rfl⟩
            obtain ⟨g, cc, e, hcc, ck⟩ := HAL2.out.io.get hjl hk
            rw [HM.out.1] at e hcc
            obtain ⟨rfl, rfl⟩ : la = some ⟨g, 0, none⟩ ∧ lc = cc := by
              injection e with e1 e2 e3
              exact ⟨e1, e3⟩
            have hccz : (m : Int) ≤ (lc : Int) := by omega
            have hk8 : k < 8 := HAL2.out.l8 k (hk ▸ List.getElem_mem hjl)
            have HFS := Hid.of (filt_snoc (hbs bs) hjl hk)
            have HNI := Hid.of (show k ∉ (is.take j).filter (hbs bs) from fun h => not_before HAL2.out.nd hjl hk (List.mem_filter.1 h).1)
            have HCW := Hid.of ck
            have HKJ := Hid.of hk
            clear e hcc hk
            by_cases hkb : k < bn
            · have hkbz : (k : Int) < (bn : Int) := by omega
              have hkl : k < bs.length := by rw [HBN.out.1]; exact hkb
              obtain ⟨y, hy⟩ : ∃ y, bs[k] = y := ⟨_, rfl⟩
              have hyb : hbs bs k = y := by unfold hbs; rw [List.getElem?_eq_getElem hkl, hy]; rfl
              obtain ⟨bb, bo, rfl, cb0⟩ := HB.out k y (by rw [List.getElem?_eq_getElem hkl, hy])
              have cb1 := HJ.out.up.cell cb0
              have hbcz : (bn : Int) ≤ (bc : Int) := by omega
              rw [hyb] at HFS
              clear hy hyb cb0
              cases y with
              | false =>
                rw [if_neg (by simp), List.append_nil] at HFS
                have HN2 := Hid.of (show ∃ S, LJ w wr S (XA 0 ((is.take (j + 1)).filter (hbs bs))) (j + 1) ∧ S.nb = nb ∧ AL wr W3.heap.size (.slice (some ⟨g, 0, none⟩) m lc) is from ⟨S1, by rw [HFS.out]; exact HJ.out.more (by omega), HNB.out.1, HAL2.out⟩)
                have HW := Hid.of (show wnt ((is.take (j + 1)).filter (hbs bs)) = wnt ((is.take j).filter (hbs bs)) by rw [HFS.out])
                clear HJ HNB
                generalize wnt ((is.take j).filter (hbs bs)) = wj at *
                go_wp2
                go_roundw
                case rel => exact ⟨j + 1, by simp, by omega, by rw [HW.out], HN2⟩
                case measure => simp [intOf]; omega
              | true =>
                rw [if_pos rfl] at HFS
                have hbw : IntKind.u8.wrap (k : Int) = (k : Int) := by simp only [IntKind.wrap, IntKind.signed, IntKind.bits]; simp; omega
                have HE1 := Hid.of (show ((UInt8.ofNat k).toNat : Int) = (k : Int) by rw [UInt8.toNat_ofNat', Nat.mod_eq_of_lt (by omega)])
                have HCL := HCW
                have HIO := Hid.of HAL2.out.io
                go_wp2_with fail
                clear cb1 ck
                refine wp_region_held_drew (S := fun w2 => w2.cell? ⟨g, j, none⟩ = some (.int .i64 (k : Int)) ∧ Up w w2) (by kernel_rfl) ⟨(Up.refl wr).drew.cell HCL.out, HJ.out.up.drew⟩ (fun hS => ?_)
                refine wpAnyH_take (i := 0) (oi := { dst := some 102, op := Go.Op.move (Go.Operand.tmp 7), type := 22, pos := "outright.go:354", after := #[], guard := none }) (v := .pointer (some ⟨nb, 0, none⟩)) rfl (by kernel_rfl) (by kernel_rfl) (by kernel_rfl) (fun _ _ _ h => h) (Or.inl ⟨by kernel_rfl, ?_⟩) hS ?_
                · intro w5 hSw
                  clear hSw hS
                  go_simp
                simp only [Act.put, List.setIfInBounds_toArray, List.set_cons_zero, List.set_cons_succ]
                refine wpAnyH_take (i := 1) (oi := { dst := some 103, op := Go.Op.move (Go.Operand.tmp 9), type := 51, pos := "outright.go:354", after := #[], guard := none }) (v := .slice (some ⟨g, 0, none⟩) m lc) rfl (by kernel_rfl) (by kernel_rfl) (by kernel_rfl) (fun _ _ _ h => h) (Or.inl ⟨by kernel_rfl, ?_⟩) hS ?_
                · intro w5 hSw
                  clear hSw hS
                  go_simp
                simp only [Act.put, List.setIfInBounds_toArray, List.set_cons_zero, List.set_cons_succ]
                refine wpAnyH_take (i := 2) (oi := { dst := some 104, op := Go.Op.move (Go.Operand.tmp 15), type := 3, pos := "outright.go:354", after := #[], guard := none }) (v := .int .i64 (j : Int)) rfl (by kernel_rfl) (by kernel_rfl) (by kernel_rfl) (fun _ _ _ h => h) (Or.inl ⟨by kernel_rfl, ?_⟩) hS ?_
                · intro w5 hSw
                  clear hSw hS
                  go_simp
                simp only [Act.put, List.setIfInBounds_toArray, List.set_cons_zero, List.set_cons_succ]
                refine wpAnyH_take (i := 3) (oi := { dst := some 105, op := Go.Op.indexAddr 51 (Go.Operand.tmp 103) (Go.Operand.tmp 104), type := 0, pos := "outright.go:354", after := #[{ on := 1, ground := Go.Ground.data }, { on := 2, ground := Go.Ground.data }], guard := none }) (v := .pointer (some ⟨g, j, none⟩)) rfl (by kernel_rfl) (by kernel_rfl) (by kernel_rfl) (fun _ _ _ h => h) (Or.inl ⟨by kernel_rfl, ?_⟩) hS ?_
                · intro w5 hSw
                  clear hSw hS
                  go_simp
                simp only [Act.put, List.setIfInBounds_toArray, List.set_cons_zero, List.set_cons_succ]
                refine wpAnyH_take (i := 4) (oi := { dst := some 106, op := Go.Op.load 3 (Go.Operand.tmp 105), type := 3, pos := "outright.go:354", after := #[{ on := 3, ground := Go.Ground.data }], guard := none }) (v := .int .i64 (k : Int)) rfl (by kernel_rfl) (by kernel_rfl) (by kernel_rfl) (fun _ _ _ h => h) (Or.inl ⟨by kernel_rfl, ?_⟩) hS ?_
                · intro w5 hSw
                  have c0 := hSw.1
                  clear hSw hS
                  go_simp
                simp only [Act.put, List.setIfInBounds_toArray, List.set_cons_zero, List.set_cons_succ]
                refine wpAnyH_take (i := 5) (oi := { dst := some 107, op := Go.Op.move (Go.Operand.tmp 9), type := 51, pos := "outright.go:354", after := #[], guard := none }) (v := .slice (some ⟨g, 0, none⟩) m lc) rfl (by kernel_rfl) (by kernel_rfl) (by kernel_rfl) (fun _ _ _ h => h) (Or.inl ⟨by kernel_rfl, ?_⟩) hS ?_
                · intro w5 hSw
                  clear hSw hS
                  go_simp
                simp only [Act.put, List.setIfInBounds_toArray, List.set_cons_zero, List.set_cons_succ]
                refine wpAnyH_take (i := 6) (oi := { dst := some 108, op := Go.Op.move (Go.Operand.tmp 15), type := 3, pos := "outright.go:354", after := #[], guard := none }) (v := .int .i64 (j : Int)) rfl (by kernel_rfl) (by kernel_rfl) (by kernel_rfl) (fun _ _ _ h => h) (Or.inl ⟨by kernel_rfl, ?_⟩) hS ?_
                · intro w5 hSw
                  clear hSw hS
                  go_simp
                simp only [Act.put, List.setIfInBounds_toArray, List.set_cons_zero, List.set_cons_succ]
                refine wpAnyH_take (i := 7) (oi := { dst := some 109, op := Go.Op.indexAddr 51 (Go.Operand.tmp 107) (Go.Operand.tmp 108), type := 0, pos := "outright.go:354", after := #[{ on := 5, ground := Go.Ground.data }, { on := 6, ground := Go.Ground.data }], guard := none }) (v := .pointer (some ⟨g, j, none⟩)) rfl (by kernel_rfl) (by kernel_rfl) (by kernel_rfl) (fun _ _ _ h => h) (Or.inl ⟨by kernel_rfl, ?_⟩) hS ?_
                · intro w5 hSw
                  clear hSw hS
                  go_simp
                simp only [Act.put, List.setIfInBounds_toArray, List.set_cons_zero, List.set_cons_succ]
                refine wpAnyH_take (i := 8) (oi := { dst := some 110, op := Go.Op.load 3 (Go.Operand.tmp 109), type := 3, pos := "outright.go:354", after := #[{ on := 7, ground := Go.Ground.data }], guard := none }) (v := .int .i64 (k : Int)) rfl (by kernel_rfl) (by kernel_rfl) (by kernel_rfl) (fun _ _ _ h => h) (Or.inl ⟨by kernel_rfl, ?_⟩) hS ?_
                · intro w5 hSw
                  have c0 := hSw.1
                  clear hSw hS
                  go_simp
                simp only [Act.put, List.setIfInBounds_toArray, List.set_cons_zero, List.set_cons_succ]
                refine wpAnyH_take (i := 9) (oi := { dst := some 111, op := Go.Op.convert 3 5 (Go.Operand.tmp 110), type := 5, pos := "outright.go:354", after := #[{ on := 8, ground := Go.Ground.data }], guard := none }) (v := .int .u8 (k : Int)) rfl (by kernel_rfl) (by kernel_rfl) (by kernel_rfl) (fun _ _ _ h => h) (Or.inl ⟨by kernel_rfl, ?_⟩) hS ?_
                · intro w5 hSw
                  clear hSw hS
                  go_simp
                simp only [Act.put, List.setIfInBounds_toArray, List.set_cons_zero, List.set_cons_succ]
                refine wpAnyH_ready (rs := [10]) (by kernel_rfl) (by simp) ?_
                refine AllReadyH.cons (o := { dst := some 112, op := Go.Op.buildSlice 47 1 #[(0, Go.Operand.tmp 111)], type := 47, pos := "outright.go:354", after := #[{ on := 9, ground := Go.Ground.data }], guard := none }) rfl (fun K hK => ?_) AllReadyH.nil
                rw [if_pos (by kernel_rfl)]
                go_simp
                have HU4 := Hid.of (((Up.refl wr).alloc (.cells #[.int .u8 (k : Int)] 5)).drew)
                have HO4 := Hid.of (ow_up (ow_one wr (UInt8.ofNat k)) (Up.refl _).drew)
                rw [HE1.out] at HO4
                generalize (wr.alloc (.cells #[.int .u8 (k : Int)] 5)).drew = W4 at *
                refine hK.out _ _ ⟨HU4.out.cell HCL.out, HJ.out.up.trans HU4.out⟩ (fun hS2 => ?_)
                clear hK K hS
                have hS := hS2
                clear hS2
                refine wpAnyH_ready (rs := [11]) (by kernel_rfl) (by simp) ?_
                refine AllReadyH.cons (o := { dst := some 113, op := Go.Op.call { callee := Go.Callee.value (Go.Operand.func 18), args := #[Go.Operand.tmp 102, Go.Operand.tmp 106, Go.Operand.tmp 112], argTypes := #[22, 3, 47] }, type := 23, pos := "outright.go:354", after := #[{ on := 0, ground := Go.Ground.data }, { on := 4, ground := Go.Ground.data }, { on := 10, ground := Go.Ground.data }], guard := none }) rfl (fun K hK => ?_) AllReadyH.nil
                rw [if_pos (by kernel_rfl)]
                have hS9 := (HJ.out.up' HU4.out).send k (.slice (some ⟨wr.heap.size, 0, none⟩) 1 1) [UInt8.ofNat k] (XA_get 0 _ hk8) (Ow.sb HO4.out) (fun g hg => row_tag HO4.out hg) (by simp) (by show 0 ≤ _; omega) (by omega)
                rw [HNB.out.1] at hS9
                go_simp
                refine hS9.mono ?_
                rintro e w5 ⟨rfl, S5, h9⟩
                dsimp only
                have HJ5 := Hid.of ((HJ.out.up' HU4.out).st h9)
                have HI5 := Hid.of (h9.fr.own (ow_up HIO.out HU4.out) (int_not_own (HJ.out.up' HU4.out).ok (ow_up HIO.out HU4.out)))
                have HN5 := Hid.of (And.intro (h9.nb.trans HNB.out.1) trivial)
                rw [XA_send 0 _ hk8 HNI.out] at HJ5
                have HX5 := Hid.of (IOwn.get (show IOwn w5 W3.heap.size (.slice (some ⟨g, 0, none⟩) m lc) is from HI5.out) hjl HKJ.out)
                have HC5 := Hid.of (show w5.cell? ⟨g, j, none⟩ = some (.int .i64 (k : Int)) from by
                  obtain ⟨g', c', e', _, c0⟩ := HX5.out
                  obtain rfl : g = g' := by
                    injection e' with e1
                    injection e1 with e1
                    injection e1
                  exact c0)
                clear h9 hS9 hS HX5
                refine hK.out _ _ ⟨HC5.out, HJ5.out.up⟩ (fun hS2 => ?_)
                clear hK K
                have hS := hS2
                clear hS2
                refine wpAnyH_ready (rs := [12]) (by kernel_rfl) (by simp) ?_
                refine AllReadyH.cons (o := { dst := some 16, op := Go.Op.assign (Go.Operand.tmp 113), type := 23, pos := "outright.go:354", after := #[{ on := 11, ground := Go.Ground.data }, { on := 11, ground := Go.Ground.chain }, { on := 0, ground := Go.Ground.phase }, { on := 1, ground := Go.Ground.phase }, { on := 2, ground := Go.Ground.phase }, { on := 3, ground := Go.Ground.phase }, { on := 4, ground := Go.Ground.phase }, { on := 5, ground := Go.Ground.phase }, { on := 6, ground := Go.Ground.phase }, { on := 7, ground := Go.Ground.phase }, { on := 8, ground := Go.Ground.phase }, { on := 9, ground := Go.Ground.phase }, { on := 10, ground := Go.Ground.phase }, { on := 11, ground := Go.Ground.phase }], guard := none }) rfl (fun K hK => ?_) AllReadyH.nil
                rw [if_pos (by kernel_rfl)]
                go_simp
                refine hK.out _ _ hS (fun hS2 => ?_)
                clear hK K hS hS2
                refine wpAnyH_done (by kernel_rfl) ?_ _
                have HN2 := Hid.of (show ∃ S, LJ w w5 S (XA 0 ((is.take (j + 1)).filter (hbs bs))) (j + 1) ∧ S.nb = nb ∧ AL w5 W3.heap.size (.slice (some ⟨g, 0, none⟩) m lc) is from ⟨S5, by rw [HFS.out]; exact HJ5.out, HN5.out.1, ⟨HI5.out, HAL2.out.l8, HAL2.out.nd⟩⟩)
                clear HJ HJ5 HI5 HN5 HIO HNB HNI HCL
                by_cases hjs : (is.take j).filter (hbs bs) = []
                · rw [hjs, show wnt [] = -1 from rfl]
                  have HW := Hid.of (show wnt ((is.take (j + 1)).filter (hbs bs)) = (k : Int) by rw [HFS.out, hjs]; rfl)
                  clear hjs
                  have c0 := HC5.out
                  go_wp2_with (go_at_call 13; refine (num_walk _ _).mono ?_; rintro _ w9 ⟨rfl, h9⟩; obtain rfl := h9.symm; clear h9; dsimp only)
                  go_roundw
                  case rel => exact ⟨j + 1, by simp, by omega, by rw [HW.out], HN2⟩
                  case measure => simp [intOf]; omega
                · obtain ⟨k0, r0, hk0⟩ := List.exists_cons_of_ne_nil hjs
                  rw [hk0, show wnt (k0 :: r0) = (k0 : Int) from rfl]
                  have HW := Hid.of (show wnt ((is.take (j + 1)).filter (hbs bs)) = (k0 : Int) by rw [HFS.out, hk0]; rfl)
                  have hk0z : ¬ (k0 : Int) < 0 := by omega
                  clear hjs hk0
                  go_wp2_with (go_at_call 13; refine (num_walk _ _).mono ?_; rintro _ w9 ⟨rfl, h9⟩; obtain rfl := h9.symm; clear h9; dsimp only)
                  go_roundw
                  case rel => exact ⟨j + 1, by simp, by omega, by rw [HW.out], HN2⟩
                  case measure => simp [intOf]; omega
            · have hkbz : ¬ (k : Int) < (bn : Int) := by omega
              have hyb : hbs bs k = false := by unfold hbs; rw [List.getElem?_eq_none (by rw [HBN.out.1]; omega)]; rfl
              rw [hyb, if_neg (by simp), List.append_nil] at HFS
              clear hyb hkb
              have HN2 := Hid.of (show ∃ S, LJ w wr S (XA 0 ((is.take (j + 1)).filter (hbs bs))) (j + 1) ∧ S.nb = nb ∧ AL wr W3.heap.size (.slice (some ⟨g, 0, none⟩) m lc) is from ⟨S1, by rw [HFS.out]; exact HJ.out.more (by omega), HNB.out.1, HAL2.out⟩)
              have HW := Hid.of (show wnt ((is.take (j + 1)).filter (hbs bs)) = wnt ((is.take j).filter (hbs bs)) by rw [HFS.out])
              clear HJ HNB
              generalize wnt ((is.take j).filter (hbs bs)) = wj at *
              go_wp2
              go_roundw
              case rel => exact ⟨j + 1, by simp, by omega, by rw [HW.out], HN2⟩
              case measure => simp [intOf]; omega
          · have hjz : ¬ (j : Int) < (m : Int) := by omega
            obtain rfl : j = m := by omega
            rw [show is.take j = is by rw [← HM.out.1, List.take_length]] at HJ ⊢
            have hnei : is ≠ [] := fun e => by rw [e] at HM; have := HM.out.1; simp at this; omega
            obtain ⟨k0, rr, rfl⟩ := List.exists_cons_of_ne_nil hnei
            clear hnei
            obtain ⟨g, cc, e, hcc, c0⟩ := HAL2.out.io.get (j := 0) (by simp) rfl
            rw [HM.out.1] at e hcc
            obtain ⟨rfl, rfl⟩ : la = some ⟨g, 0, none⟩ ∧ lc = cc := by
              injection e with e1 e2 e3
              exact ⟨e1, e3⟩
            clear e c0
            have hccz : (j : Int) ≤ (lc : Int) := by omega
            have hk08 : k0 < 8 := HAL2.out.l8 k0 (by simp)
            cases hf : (k0 :: rr).filter (hbs bs) with
            | nil =>
              rw [hf] at HJ
              rw [show wnt [] = -1 from rfl]
              clear hf
              go_wp2_with fail
              refine (below_walk wr z 30 (by omega) (by omega)).mono ?_
              rintro e w9 ⟨T, rfl, hT, h9⟩
              obtain rfl := h9.symm
              clear h9
              dsimp only
              have hA := HJ.out.any (.slice (some ⟨g, 0, none⟩) j lc) (k0 :: rr) T HAL2.out.io (by simp) (fun i hi => by rw [XA_len]; exact HAL2.out.l8 i hi) (by rw [HM.out.1]; exact hml) HAL2.out.nd (by omega) (by show 0 ≤ _; omega) (by omega)
              rw [HNB.out.1, XA_none T 0 HAL2.out.l8 (by simp)] at hA
              dsimp only at hA
              go_wp2_with fail
              refine hA.mono ?_
              rintro e W7 ⟨mv, rfl, om, S7, h9⟩
              rw [Nat.zero_add] at h9
              have HJx := Hid.of (HJ.out.st h9)
              have HNx := Hid.of (And.intro (h9.nb.trans HNB.out.1) trivial)
              have HIx := Hid.of (h9.fr.own HAL2.out.io (int_not_own HJ.out.ok HAL2.out.io))
              have hNw := Now_walk W7 S7 HJx.out.ok
              rw [HNx.out.1, HJx.out.now, show (XA T []).now = T from rfl] at hNw
              have HK0 := Hid.of (show k0 ∉ ([] : List Nat) from fun h => by cases h)
              obtain ⟨ma, mc, rfl, _⟩ := Ow.sb om
              obtain ⟨js, hjs⟩ : ∃ js : List Nat, js = [] := ⟨_, rfl⟩
              rw [← hjs] at HJx HK0
              have HCx := Hid.of (show W7.cell? ⟨g, 0, none⟩ = some (.int .i64 (k0 : Int)) from by
                obtain ⟨g', c', e', _, c0⟩ := IOwn.get (show IOwn W7 W3.heap.size (.slice (some ⟨g, 0, none⟩) j lc) (k0 :: rr) from HIx.out) (j := 0) (by simp) rfl
                obtain rfl : g = g' := by
                  injection e' with e1
                  injection e1 with e1
                  injection e1
                exact c0)
              clear h9 hA om HJ HNB HAL2 hjs
              dsimp only
              have c1 := HCx.out
              have HO7 := Hid.of (ow_one W7 77)
              have HU7 := Hid.of ((Up.refl W7).alloc (.cells #[.int .u8 ((77 : UInt8).toNat : Int)] 5))
              rw [show (((77 : UInt8).toNat : Int)) = (77 : Int) from rfl] at HO7 HU7
              go_wp2_with (first | (go_at_call 13; refine (num_walk _ _).mono ?_; rintro _ w9 ⟨rfl, h9⟩; obtain rfl := h9.symm; clear h9; dsimp only) | (go_at_call 16; refine hNw.mono ?_; rintro _ w9 ⟨rfl, h9⟩; obtain rfl := h9.symm; clear h9; dsimp only))
              generalize W7.alloc (.cells #[.int .u8 (77 : Int)] 5) = W8 at *
              obtain ⟨f1, f2, f3⟩ := XA_77 T hk08 HK0.out
              have hS := (HJx.out.up' HU7.out).send k0 (.slice (some ⟨W7.heap.size, 0, none⟩) 1 1) [77] (XA_get T _ hk08) (Ow.sb HO7.out) (fun g hg => row_tag HO7.out hg) (by simp) (by show T ≤ _; omega) (by omega)
              rw [HNx.out.1] at hS
              refine hS.mono ?_
              rintro e w9 ⟨rfl, S9, h9⟩
              have HJ9 := Hid.of ((HJx.out.up' HU7.out).st h9)
              have HN9 := Hid.of (And.intro (h9.nb.trans HNx.out.1) trivial)
              have HI9 := Hid.of (h9.fr.own (ow_up HIx.out HU7.out) (int_not_own (HJx.out.up' HU7.out).ok (ow_up HIx.out HU7.out)))
              have HF := Hid.of (And.intro f1 (And.intro f2 f3))
              have HC9 := Hid.of (show w9.cell? ⟨g, 0, none⟩ = some (.int .i64 (k0 : Int)) from by
                obtain ⟨g', c', e', _, c0⟩ := IOwn.get (show IOwn w9 W3.heap.size (.slice (some ⟨g, 0, none⟩) j lc) (k0 :: rr) from HI9.out) (j := 0) (by simp) rfl
                obtain rfl : g = g' := by
                  injection e' with e1
                  injection e1 with e1
                  injection e1
                exact c0)
              clear f1 f2 f3 hS h9 c1 HJx HNx HIx HCx HO7 HU7 HK0
              obtain ⟨l9, hl9, _, hl9b⟩ := abs_get HJ9.out.ab HF.out.1
              have hWt := Waiting_yes w9 S9 k0 l9 HJ9.out.ok hl9
              rw [HN9.out.1, show l9.ms.length = 1 by have := congrArg List.length hl9b; simpa using this] at hWt
              clear hl9 hl9b
              generalize SendA (XA T js) k0 [77] = B at *
              have c1 := HC9.out
              dsimp only
              go_wp2_with fail
              refine hWt.mono ?_
              rintro e w8 ⟨rfl, h8⟩
              obtain rfl := h8.symm
              clear h8 hWt c1
              dsimp only
              go_wp2_with (go_at_call 13; refine (num_walk _ _).mono ?_; rintro _ w9 ⟨rfl, h9⟩; obtain rfl := h9.symm; clear h9; dsimp only)
              go_loopw [24, 25, 26] (fun v24 _ _ w2 => v24 = .int .i64 1 ∧ Hid (w2 = w9)) (fun _ _ _ _ => 0)
              case atStart => exact ⟨rfl, Hid.of rfl⟩
              case round =>
                obtain ⟨rfl, hw2⟩ := hrel
                obtain rfl := hw2.out
                clear hw2
                have hA := HJ9.out.any (.slice (some ⟨g, 0, none⟩) 1 lc) [k0] 0 (IOwn.one HI9.out) (by simp) (fun i hi => by
                  obtain rfl := List.mem_singleton.1 hi
                  exact (List.getElem?_eq_some_iff.1 HF.out.1).1) (by simp) (fun i => by rw [List.count_cons, List.count_nil]; split <;> omega) (by omega) (by rw [HF.out.2.1]; omega) (by omega)
                rw [HN9.out.1, HF.out.2.2] at hA
                dsimp only at hA
                have hlc1 : (1 : Int) ≤ (lc : Int) := by omega
                go_wp2_with fail
                refine hA.mono ?_
                rintro e w10 ⟨mv, rfl, om, S10, h9⟩
                have HU10 := Hid.of (HJ9.out.st h9).up
                have hC10 : w10.cell? ⟨g, 0, none⟩ = some (.int .i64 (k0 : Int)) := by
                  have HI10 := h9.fr.own HI9.out (int_not_own HJ9.out.ok HI9.out)
                  obtain ⟨g', c', e', _, c0⟩ := IOwn.get (show IOwn w10 W3.heap.size (.slice (some ⟨g, 0, none⟩) j lc) (k0 :: rr) from HI10) (j := 0) (by simp) rfl
                  obtain rfl : g = g' := by
                    injection e' with e1
                    injection e1 with e1
                    injection e1
                  exact c0
                obtain ⟨g3, k3, rfl, hk3⟩ := ow_shape1 om
                have x3 := (ow_cells om (i := 0) (by simp)).1
                have y3 : (1 : Int) ≤ (k3 : Int) := by omega
                simp only [List.getElem_cons_zero] at x3
                clear h9 hA om
                dsimp only
                go_wp2_with (go_at_call 13; refine (num_walk _ _).mono ?_; rintro _ w9 ⟨rfl, h9⟩; obtain rfl := h9.symm; clear h9; dsimp only)
                go_ret
                exact ⟨rfl, HU10.out⟩
            | cons k r =>
              rw [hf] at HJ
              rw [show wnt (k :: r) = (k : Int) from rfl]
              have hkr := head_notin HAL2.out.nd (hbs bs) hf
              have hkz : (0 : Int) ≤ (k : Int) := by omega
              have HK0 := Hid.of (show k0 ∉ r from fun h => by
                have hm : k0 ∈ (k0 :: rr).filter (hbs bs) := by rw [hf]; simp [h]
                have hp := (List.mem_filter.1 hm).2
                rw [List.filter_cons_of_pos hp] at hf
                injection hf with h1 h2
                subst h1
                exact hkr h)
              have hk8 : k < 8 := HAL2.out.l8 k (by
                have : k ∈ (k0 :: rr).filter (hbs bs) := by rw [hf]; simp
                exact (List.mem_filter.1 this).1)
              have HXA := Hid.of (fun n => XA_any 0 n HAL2.out.l8 hf hkr)
              clear hf hkr
              go_wp2_with fail
              refine (below_walk wr z 30 (by omega) (by omega)).mono ?_
              rintro e w9 ⟨T0, rfl, hT0, h9⟩
              obtain rfl := h9.symm
              clear h9
              dsimp only
              have hA := HJ.out.any (.slice (some ⟨g, 0, none⟩) j lc) (k0 :: rr) T0 HAL2.out.io (by simp) (fun i hi => by rw [XA_len]; exact HAL2.out.l8 i hi) (by rw [HM.out.1]; exact hml) HAL2.out.nd (by omega) (by show 0 ≤ _; omega) (by omega)
              rw [HNB.out.1, HXA.out T0] at hA
              dsimp only at hA
              go_wp2_with fail
              refine hA.mono ?_
              rintro e W7 ⟨mv, rfl, om, S7, h9⟩
              have HJx := Hid.of (HJ.out.st h9)
              have HNx := Hid.of (And.intro (h9.nb.trans HNB.out.1) trivial)
              have HIx := Hid.of (h9.fr.own HAL2.out.io (int_not_own HJ.out.ok HAL2.out.io))
              have hNw := Now_walk W7 S7 HJx.out.ok
              rw [HNx.out.1, HJx.out.now, show (XA 0 r).now = 0 from rfl] at hNw
              obtain ⟨g2, k2, rfl, hk2⟩ := ow_shape1 om
              have x2 := (ow_cells om (i := 0) (by simp)).1
              have y2 : (1 : Int) ≤ (k2 : Int) := by omega
              simp only [List.getElem_cons_zero] at x2
              rw [show ((UInt8.ofNat k).toNat : Int) = (k : Int) by rw [UInt8.toNat_ofNat', Nat.mod_eq_of_lt (by omega)]] at x2
              have hbw : IntKind.i64.wrap (k : Int) = (k : Int) := by rw [IntKind.wrap_i64]; omega
              obtain ⟨js, hjs⟩ : ∃ js : List Nat, js = r := ⟨_, rfl⟩
              rw [← hjs] at HJx HK0
              obtain ⟨T, hT'⟩ : ∃ T : Nat, T = 0 := ⟨_, rfl⟩
              have hT : T < 30 := by omega
              have HCx := Hid.of (show W7.cell? ⟨g, 0, none⟩ = some (.int .i64 (k0 : Int)) from by
                obtain ⟨g', c', e', _, c0⟩ := IOwn.get (show IOwn W7 W3.heap.size (.slice (some ⟨g, 0, none⟩) j lc) (k0 :: rr) from HIx.out) (j := 0) (by simp) rfl
                obtain rfl : g = g' := by
                  injection e' with e1
                  injection e1 with e1
                  injection e1
                exact c0)
              clear h9 hA om HJ HNB HAL2 hjs HXA
              dsimp only
              rw [← hT'] at HJx
              have c1 := HCx.out
              have HO7 := Hid.of (ow_one W7 77)
              have HU7 := Hid.of ((Up.refl W7).alloc (.cells #[.int .u8 ((77 : UInt8).toNat : Int)] 5))
              rw [show (((77 : UInt8).toNat : Int)) = (77 : Int) from rfl] at HO7 HU7
              go_wp2_with (first | (go_at_call 13; refine (num_walk _ _).mono ?_; rintro _ w9 ⟨rfl, h9⟩; obtain rfl := h9.symm; clear h9; dsimp only) | (go_at_call 16; refine hNw.mono ?_; rintro _ w9 ⟨rfl, h9⟩; obtain rfl := h9.symm; clear h9; dsimp only))
              generalize W7.alloc (.cells #[.int .u8 (77 : Int)] 5) = W8 at *
              obtain ⟨f1, f2, f3⟩ := XA_77 T hk08 HK0.out
              have hS := (HJx.out.up' HU7.out).send k0 (.slice (some ⟨W7.heap.size, 0, none⟩) 1 1) [77] (XA_get T _ hk08) (Ow.sb HO7.out) (fun g hg => row_tag HO7.out hg) (by simp) (by show T ≤ _; omega) (by omega)
              rw [HNx.out.1] at hS
              refine hS.mono ?_
              rintro e w9 ⟨rfl, S9, h9⟩
              have HJ9 := Hid.of ((HJx.out.up' HU7.out).st h9)
              have HN9 := Hid.of (And.intro (h9.nb.trans HNx.out.1) trivial)
              have HI9 := Hid.of (h9.fr.own (ow_up HIx.out HU7.out) (int_not_own (HJx.out.up' HU7.out).ok (ow_up HIx.out HU7.out)))
              have HF := Hid.of (And.intro f1 (And.intro f2 f3))
              have HC9 := Hid.of (show w9.cell? ⟨g, 0, none⟩ = some (.int .i64 (k0 : Int)) from by
                obtain ⟨g', c', e', _, c0⟩ := IOwn.get (show IOwn w9 W3.heap.size (.slice (some ⟨g, 0, none⟩) j lc) (k0 :: rr) from HI9.out) (j := 0) (by simp) rfl
                obtain rfl : g = g' := by
                  injection e' with e1
                  injection e1 with e1
                  injection e1
                exact c0)
              clear f1 f2 f3 hS h9 c1 HJx HNx HIx HCx HO7 HU7 HK0
              obtain ⟨l9, hl9, _, hl9b⟩ := abs_get HJ9.out.ab HF.out.1
              have hWt := Waiting_yes w9 S9 k0 l9 HJ9.out.ok hl9
              rw [HN9.out.1, show l9.ms.length = 1 by have := congrArg List.length hl9b; simpa using this] at hWt
              clear hl9 hl9b
              generalize SendA (XA T js) k0 [77] = B at *
              have c1 := HC9.out
              dsimp only
              go_wp2_with fail
              refine hWt.mono ?_
              rintro e w8 ⟨rfl, h8⟩
              obtain rfl := h8.symm
              clear h8 hWt c1
              dsimp only
              go_wp2_with (go_at_call 13; refine (num_walk _ _).mono ?_; rintro _ w9 ⟨rfl, h9⟩; obtain rfl := h9.symm; clear h9; dsimp only)
              go_loopw [24, 25, 26] (fun v24 _ _ w2 => v24 = .int .i64 1 ∧ Hid (w2 = w9)) (fun _ _ _ _ => 0)
              case atStart => exact ⟨rfl, Hid.of rfl⟩
              case round =>
                obtain ⟨rfl, hw2⟩ := hrel
                obtain rfl := hw2.out
                clear hw2
                have hA := HJ9.out.any (.slice (some ⟨g, 0, none⟩) 1 lc) [k0] 0 (IOwn.one HI9.out) (by simp) (fun i hi => by
                  obtain rfl := List.mem_singleton.1 hi
                  exact (List.getElem?_eq_some_iff.1 HF.out.1).1) (by simp) (fun i => by rw [List.count_cons, List.count_nil]; split <;> omega) (by omega) (by rw [HF.out.2.1]; omega) (by omega)
                rw [HN9.out.1, HF.out.2.2] at hA
                dsimp only at hA
                have hlc1 : (1 : Int) ≤ (lc : Int) := by omega
                go_wp2_with fail
                refine hA.mono ?_
                rintro e w10 ⟨mv, rfl, om, S10, h9⟩
                have HU10 := Hid.of (HJ9.out.st h9).up
                have hC10 : w10.cell? ⟨g, 0, none⟩ = some (.int .i64 (k0 : Int)) := by
                  have HI10 := h9.fr.own HI9.out (int_not_own HJ9.out.ok HI9.out)
                  obtain ⟨g', c', e', _, c0⟩ := IOwn.get (show IOwn w10 W3.heap.size (.slice (some ⟨g, 0, none⟩) j lc) (k0 :: rr) from HI10) (j := 0) (by simp) rfl
                  obtain rfl : g = g' := by
                    injection e' with e1
                    injection e1 with e1
                    injection e1
                  exact c0
                obtain ⟨g3, k3, rfl, hk3⟩ := ow_shape1 om
                have x3 := (ow_cells om (i := 0) (by simp)).1
                have y3 : (1 : Int) ≤ (k3 : Int) := by omega
                simp only [List.getElem_cons_zero] at x3
                clear h9 hA om
                dsimp only
                go_wp2_with (go_at_call 13; refine (num_walk _ _).mono ?_; rintro _ w9 ⟨rfl, h9⟩; obtain rfl := h9.symm; clear h9; dsimp only)
                go_ret
                exact ⟨rfl, HU10.out⟩
      · have hmz : ¬ (m : Int) = 0 := by omega
        have hm1 : 1 ≤ m := by omega
        have hml : m ≤ 64 := by omega
        clear HNE hm0
        by_cases hz : j < zn
        · have hltz : (j : Int) < (zn : Int) := by omega
          have hltz2 : ¬ (j : Int) < 64 := by omega
          go_wp2
          have HL0 := Hid.of (show ∃ S, LJ w wr S (XA 0 ((is.take 0).filter (hbs bs))) 0 ∧ S.nb = nb ∧ AL wr W3.heap.size (.slice la m lc) is from ⟨S, HJ0.out.up' HU.out, HNB0.out.1, HAL.out⟩)
          clear HJ0 HNB0 HU HAL
          go_loopw [14, 15, 16] (fun v14 v15 _ wr => ∃ j : Nat, v15 = .int .i64 (j : Int) ∧ j ≤ m ∧ v14 = .int .i64 (wnt ((is.take j).filter (hbs bs))) ∧ Hid (∃ S, LJ w wr S (XA 0 ((is.take j).filter (hbs bs))) j ∧ S.nb = nb ∧ AL wr W3.heap.size (.slice la m lc) is)) (fun _ v15 _ _ => m - (intOf v15).toNat)
          case atStart => exact ⟨0, rfl, by omega, rfl, HL0⟩
          case round =>
            clear HL0
            obtain ⟨j, rfl, hjm, rfl, hR⟩ := hrel
            obtain ⟨S1, hJ1, hnb1, hAL1⟩ := hR.out
            have HJ := Hid.of hJ1
            have HNB := Hid.of (And.intro hnb1 trivial)
            have HAL2 := Hid.of hAL1
            clear hR hJ1 hnb1 hAL1
            by_cases hlt : j < m
            · have hjz : (j : Int) < (m : Int) := by omega
              have hjw : IntKind.i64.wrap ((j : Int) + 1) = (j : Int) + 1 := by rw [IntKind.wrap_i64]; omega
              have hjl : j < is.length := by rw [HM.out.1]; exact hlt
              obtain ⟨k, hk⟩ : ∃ k, is[j] = k := ⟨_, rfl⟩
              obtain ⟨g, cc, e, hcc, ck⟩ := HAL2.out.io.get hjl hk
              rw [HM.out.1] at e hcc
              obtain ⟨rfl, rfl⟩ : la = some ⟨g, 0, none⟩ ∧ lc = cc := by
                injection e with e1 e2 e3
                exact ⟨e1, e3⟩
              have hccz : (m : Int) ≤ (lc : Int) := by omega
              have hk8 : k < 8 := HAL2.out.l8 k (hk ▸ List.getElem_mem hjl)
              have HFS := Hid.of (filt_snoc (hbs bs) hjl hk)
              have HNI := Hid.of (show k ∉ (is.take j).filter (hbs bs) from fun h => not_before HAL2.out.nd hjl hk (List.mem_filter.1 h).1)
              have HCW := Hid.of ck
              have HKJ := Hid.of hk
              clear e hcc hk
              by_cases hkb : k < bn
              · have hkbz : (k : Int) < (bn : Int) := by omega
                have hkl : k < bs.length := by rw [HBN.out.1]; exact hkb
                obtain ⟨y, hy⟩ : ∃ y, bs[k] = y := ⟨_, rfl⟩
                have hyb : hbs bs k = y := by unfold hbs; rw [List.getElem?_eq_getElem hkl, hy]; rfl
                obtain ⟨bb, bo, rfl, cb0⟩ := HB.out k y (by rw [List.getElem?_eq_getElem hkl, hy])
                have cb1 := HJ.out.up.cell cb0
                have hbcz : (bn : Int) ≤ (bc : Int) := by omega
                rw [hyb] at HFS
                clear hy hyb cb0
                cases y with
                | false =>
                  rw [if_neg (by simp), List.append_nil] at HFS
                  have HN2 := Hid.of (show ∃ S, LJ w wr S (XA 0 ((is.take (j + 1)).filter (hbs bs))) (j + 1) ∧ S.nb = nb ∧ AL wr W3.heap.size (.slice (some ⟨g, 0, none⟩) m lc) is from ⟨S1, by rw [HFS.out]; exact HJ.out.more (by omega), HNB.out.1, HAL2.out⟩)
                  have HW := Hid.of (show wnt ((is.take (j + 1)).filter (hbs bs)) = wnt ((is.take j).filter (hbs bs)) by rw [HFS.out])
                  clear HJ HNB
                  generalize wnt ((is.take j).filter (hbs bs)) = wj at *
                  go_wp2
                  go_roundw
                  case rel => exact ⟨j + 1, by simp, by omega, by rw [HW.out], HN2⟩
                  case measure => simp [intOf]; omega
                | true =>
                  rw [if_pos rfl] at HFS
                  have hbw : IntKind.u8.wrap (k : Int) = (k : Int) := by simp only [IntKind.wrap, IntKind.signed, IntKind.bits]; simp; omega
                  have HE1 := Hid.of (show ((UInt8.ofNat k).toNat : Int) = (k : Int) by rw [UInt8.toNat_ofNat', Nat.mod_eq_of_lt (by omega)])
                  have HCL := HCW
                  have HIO := Hid.of HAL2.out.io
                  go_wp2_with fail
                  clear cb1 ck
                  refine wp_region_held_drew (S := fun w2 => w2.cell? ⟨g, j, none⟩ = some (.int .i64 (k : Int)) ∧ Up w w2) (by kernel_rfl) ⟨(Up.refl wr).drew.cell HCL.out, HJ.out.up.drew⟩ (fun hS => ?_)
                  refine wpAnyH_take (i := 0) (oi := { dst := some 102, op := Go.Op.move (Go.Operand.tmp 7), type := 22, pos := "outright.go:354", after := #[], guard := none }) (v := .pointer (some ⟨nb, 0, none⟩)) rfl (by kernel_rfl) (by kernel_rfl) (by kernel_rfl) (fun _ _ _ h => h) (Or.inl ⟨by kernel_rfl, ?_⟩) hS ?_
                  · intro w5 hSw
                    clear hSw hS
                    go_simp
                  simp only [Act.put, List.setIfInBounds_toArray, List.set_cons_zero, List.set_cons_succ]
                  refine wpAnyH_take (i := 1) (oi := { dst := some 103, op := Go.Op.move (Go.Operand.tmp 9), type := 51, pos := "outright.go:354", after := #[], guard := none }) (v := .slice (some ⟨g, 0, none⟩) m lc) rfl (by kernel_rfl) (by kernel_rfl) (by kernel_rfl) (fun _ _ _ h => h) (Or.inl ⟨by kernel_rfl, ?_⟩) hS ?_
                  · intro w5 hSw
                    clear hSw hS
                    go_simp
                  simp only [Act.put, List.setIfInBounds_toArray, List.set_cons_zero, List.set_cons_succ]
                  refine wpAnyH_take (i := 2) (oi := { dst := some 104, op := Go.Op.move (Go.Operand.tmp 15), type := 3, pos := "outright.go:354", after := #[], guard := none }) (v := .int .i64 (j : Int)) rfl (by kernel_rfl) (by kernel_rfl) (by kernel_rfl) (fun _ _ _ h => h) (Or.inl ⟨by kernel_rfl, ?_⟩) hS ?_
                  · intro w5 hSw
                    clear hSw hS
                    go_simp
                  simp only [Act.put, List.setIfInBounds_toArray, List.set_cons_zero, List.set_cons_succ]
                  refine wpAnyH_take (i := 3) (oi := { dst := some 105, op := Go.Op.indexAddr 51 (Go.Operand.tmp 103) (Go.Operand.tmp 104), type := 0, pos := "outright.go:354", after := #[{ on := 1, ground := Go.Ground.data }, { on := 2, ground := Go.Ground.data }], guard := none }) (v := .pointer (some ⟨g, j, none⟩)) rfl (by kernel_rfl) (by kernel_rfl) (by kernel_rfl) (fun _ _ _ h => h) (Or.inl ⟨by kernel_rfl, ?_⟩) hS ?_
                  · intro w5 hSw
                    clear hSw hS
                    go_simp
                  simp only [Act.put, List.setIfInBounds_toArray, List.set_cons_zero, List.set_cons_succ]
                  refine wpAnyH_take (i := 4) (oi := { dst := some 106, op := Go.Op.load 3 (Go.Operand.tmp 105), type := 3, pos := "outright.go:354", after := #[{ on := 3, ground := Go.Ground.data }], guard := none }) (v := .int .i64 (k : Int)) rfl (by kernel_rfl) (by kernel_rfl) (by kernel_rfl) (fun _ _ _ h => h) (Or.inl ⟨by kernel_rfl, ?_⟩) hS ?_
                  · intro w5 hSw
                    have c0 := hSw.1
                    clear hSw hS
                    go_simp
                  simp only [Act.put, List.setIfInBounds_toArray, List.set_cons_zero, List.set_cons_succ]
                  refine wpAnyH_take (i := 5) (oi := { dst := some 107, op := Go.Op.move (Go.Operand.tmp 9), type := 51, pos := "outright.go:354", after := #[], guard := none }) (v := .slice (some ⟨g, 0, none⟩) m lc) rfl (by kernel_rfl) (by kernel_rfl) (by kernel_rfl) (fun _ _ _ h => h) (Or.inl ⟨by kernel_rfl, ?_⟩) hS ?_
                  · intro w5 hSw
                    clear hSw hS
                    go_simp
                  simp only [Act.put, List.setIfInBounds_toArray, List.set_cons_zero, List.set_cons_succ]
                  refine wpAnyH_take (i := 6) (oi := { dst := some 108, op := Go.Op.move (Go.Operand.tmp 15), type := 3, pos := "outright.go:354", after := #[], guard := none }) (v := .int .i64 (j : Int)) rfl (by kernel_rfl) (by kernel_rfl) (by kernel_rfl) (fun _ _ _ h => h) (Or.inl ⟨by kernel_rfl, ?_⟩) hS ?_
                  · intro w5 hSw
                    clear hSw hS
                    go_simp
                  simp only [Act.put, List.setIfInBounds_toArray, List.set_cons_zero, List.set_cons_succ]
                  refine wpAnyH_take (i := 7) (oi := { dst := some 109, op := Go.Op.indexAddr 51 (Go.Operand.tmp 107) (Go.Operand.tmp 108), type := 0, pos := "outright.go:354", after := #[{ on := 5, ground := Go.Ground.data }, { on := 6, ground := Go.Ground.data }], guard := none }) (v := .pointer (some ⟨g, j, none⟩)) rfl (by kernel_rfl) (by kernel_rfl) (by kernel_rfl) (fun _ _ _ h => h) (Or.inl ⟨by kernel_rfl, ?_⟩) hS ?_
                  · intro w5 hSw
                    clear hSw hS
                    go_simp
                  simp only [Act.put, List.setIfInBounds_toArray, List.set_cons_zero, List.set_cons_succ]
                  refine wpAnyH_take (i := 8) (oi := { dst := some 110, op := Go.Op.load 3 (Go.Operand.tmp 109), type := 3, pos := "outright.go:354", after := #[{ on := 7, ground := Go.Ground.data }], guard := none }) (v := .int .i64 (k : Int)) rfl (by kernel_rfl) (by kernel_rfl) (by kernel_rfl) (fun _ _ _ h => h) (Or.inl ⟨by kernel_rfl, ?_⟩) hS ?_
                  · intro w5 hSw
                    have c0 := hSw.1
                    clear hSw hS
                    go_simp
                  simp only [Act.put, List.setIfInBounds_toArray, List.set_cons_zero, List.set_cons_succ]
                  refine wpAnyH_take (i := 9) (oi := { dst := some 111, op := Go.Op.convert 3 5 (Go.Operand.tmp 110), type := 5, pos := "outright.go:354", after := #[{ on := 8, ground := Go.Ground.data }], guard := none }) (v := .int .u8 (k : Int)) rfl (by kernel_rfl) (by kernel_rfl) (by kernel_rfl) (fun _ _ _ h => h) (Or.inl ⟨by kernel_rfl, ?_⟩) hS ?_
                  · intro w5 hSw
                    clear hSw hS
                    go_simp
                  simp only [Act.put, List.setIfInBounds_toArray, List.set_cons_zero, List.set_cons_succ]
                  refine wpAnyH_ready (rs := [10]) (by kernel_rfl) (by simp) ?_
                  refine AllReadyH.cons (o := { dst := some 112, op := Go.Op.buildSlice 47 1 #[(0, Go.Operand.tmp 111)], type := 47, pos := "outright.go:354", after := #[{ on := 9, ground := Go.Ground.data }], guard := none }) rfl (fun K hK => ?_) AllReadyH.nil
                  rw [if_pos (by kernel_rfl)]
                  go_simp
                  have HU4 := Hid.of (((Up.refl wr).alloc (.cells #[.int .u8 (k : Int)] 5)).drew)
                  have HO4 := Hid.of (ow_up (ow_one wr (UInt8.ofNat k)) (Up.refl _).drew)
                  rw [HE1.out] at HO4
                  generalize (wr.alloc (.cells #[.int .u8 (k : Int)] 5)).drew = W4 at *
                  refine hK.out _ _ ⟨HU4.out.cell HCL.out, HJ.out.up.trans HU4.out⟩ (fun hS2 => ?_)
                  clear hK K hS
                  have hS := hS2
                  clear hS2
                  refine wpAnyH_ready (rs := [11]) (by kernel_rfl) (by simp) ?_
                  refine AllReadyH.cons (o := { dst := some 113, op := Go.Op.call { callee := Go.Callee.value (Go.Operand.func 18), args := #[Go.Operand.tmp 102, Go.Operand.tmp 106, Go.Operand.tmp 112], argTypes := #[22, 3, 47] }, type := 23, pos := "outright.go:354", after := #[{ on := 0, ground := Go.Ground.data }, { on := 4, ground := Go.Ground.data }, { on := 10, ground := Go.Ground.data }], guard := none }) rfl (fun K hK => ?_) AllReadyH.nil
                  rw [if_pos (by kernel_rfl)]
                  have hS9 := (HJ.out.up' HU4.out).send k (.slice (some ⟨wr.heap.size, 0, none⟩) 1 1) [UInt8.ofNat k] (XA_get 0 _ hk8) (Ow.sb HO4.out) (fun g hg => row_tag HO4.out hg) (by simp) (by show 0 ≤ _; omega) (by omega)
                  rw [HNB.out.1] at hS9
                  go_simp
                  refine hS9.mono ?_
                  rintro e w5 ⟨rfl, S5, h9⟩
                  dsimp only
                  have HJ5 := Hid.of ((HJ.out.up' HU4.out).st h9)
                  have HI5 := Hid.of (h9.fr.own (ow_up HIO.out HU4.out) (int_not_own (HJ.out.up' HU4.out).ok (ow_up HIO.out HU4.out)))
                  have HN5 := Hid.of (And.intro (h9.nb.trans HNB.out.1) trivial)
                  rw [XA_send 0 _ hk8 HNI.out] at HJ5
                  have HX5 := Hid.of (IOwn.get (show IOwn w5 W3.heap.size (.slice (some ⟨g, 0, none⟩) m lc) is from HI5.out) hjl HKJ.out)
                  have HC5 := Hid.of (show w5.cell? ⟨g, j, none⟩ = some (.int .i64 (k : Int)) from by
                    obtain ⟨g', c', e', _, c0⟩ := HX5.out
                    obtain rfl : g = g' := by
                      injection e' with e1
                      injection e1 with e1
                      injection e1
                    exact c0)
                  clear h9 hS9 hS HX5
                  refine hK.out _ _ ⟨HC5.out, HJ5.out.up⟩ (fun hS2 => ?_)
                  clear hK K
                  have hS := hS2
                  clear hS2
                  refine wpAnyH_ready (rs := [12]) (by kernel_rfl) (by simp) ?_
                  refine AllReadyH.cons (o := { dst := some 16, op := Go.Op.assign (Go.Operand.tmp 113), type := 23, pos := "outright.go:354", after := #[{ on := 11, ground := Go.Ground.data }, { on := 11, ground := Go.Ground.chain }, { on := 0, ground := Go.Ground.phase }, { on := 1, ground := Go.Ground.phase }, { on := 2, ground := Go.Ground.phase }, { on := 3, ground := Go.Ground.phase }, { on := 4, ground := Go.Ground.phase }, { on := 5, ground := Go.Ground.phase }, { on := 6, ground := Go.Ground.phase }, { on := 7, ground := Go.Ground.phase }, { on := 8, ground := Go.Ground.phase }, { on := 9, ground := Go.Ground.phase }, { on := 10, ground := Go.Ground.phase }, { on := 11, ground := Go.Ground.phase }], guard := none }) rfl (fun K hK => ?_) AllReadyH.nil
                  rw [if_pos (by kernel_rfl)]
                  go_simp
                  refine hK.out _ _ hS (fun hS2 => ?_)
                  clear hK K hS hS2
                  refine wpAnyH_done (by kernel_rfl) ?_ _
                  have HN2 := Hid.of (show ∃ S, LJ w w5 S (XA 0 ((is.take (j + 1)).filter (hbs bs))) (j + 1) ∧ S.nb = nb ∧ AL w5 W3.heap.size (.slice (some ⟨g, 0, none⟩) m lc) is from ⟨S5, by rw [HFS.out]; exact HJ5.out, HN5.out.1, ⟨HI5.out, HAL2.out.l8, HAL2.out.nd⟩⟩)
                  clear HJ HJ5 HI5 HN5 HIO HNB HNI HCL
                  by_cases hjs : (is.take j).filter (hbs bs) = []
                  · rw [hjs, show wnt [] = -1 from rfl]
                    have HW := Hid.of (show wnt ((is.take (j + 1)).filter (hbs bs)) = (k : Int) by rw [HFS.out, hjs]; rfl)
                    clear hjs
                    have c0 := HC5.out
                    go_wp2_with (go_at_call 13; refine (num_walk _ _).mono ?_; rintro _ w9 ⟨rfl, h9⟩; obtain rfl := h9.symm; clear h9; dsimp only)
                    go_roundw
                    case rel => exact ⟨j + 1, by simp, by omega, by rw [HW.out], HN2⟩
                    case measure => simp [intOf]; omega
                  · obtain ⟨k0, r0, hk0⟩ := List.exists_cons_of_ne_nil hjs
                    rw [hk0, show wnt (k0 :: r0) = (k0 : Int) from rfl]
                    have HW := Hid.of (show wnt ((is.take (j + 1)).filter (hbs bs)) = (k0 : Int) by rw [HFS.out, hk0]; rfl)
                    have hk0z : ¬ (k0 : Int) < 0 := by omega
                    clear hjs hk0
                    go_wp2_with (go_at_call 13; refine (num_walk _ _).mono ?_; rintro _ w9 ⟨rfl, h9⟩; obtain rfl := h9.symm; clear h9; dsimp only)
                    go_roundw
                    case rel => exact ⟨j + 1, by simp, by omega, by rw [HW.out], HN2⟩
                    case measure => simp [intOf]; omega
              · have hkbz : ¬ (k : Int) < (bn : Int) := by omega
                have hyb : hbs bs k = false := by unfold hbs; rw [List.getElem?_eq_none (by rw [HBN.out.1]; omega)]; rfl
                rw [hyb, if_neg (by simp), List.append_nil] at HFS
                clear hyb hkb
                have HN2 := Hid.of (show ∃ S, LJ w wr S (XA 0 ((is.take (j + 1)).filter (hbs bs))) (j + 1) ∧ S.nb = nb ∧ AL wr W3.heap.size (.slice (some ⟨g, 0, none⟩) m lc) is from ⟨S1, by rw [HFS.out]; exact HJ.out.more (by omega), HNB.out.1, HAL2.out⟩)
                have HW := Hid.of (show wnt ((is.take (j + 1)).filter (hbs bs)) = wnt ((is.take j).filter (hbs bs)) by rw [HFS.out])
                clear HJ HNB
                generalize wnt ((is.take j).filter (hbs bs)) = wj at *
                go_wp2
                go_roundw
                case rel => exact ⟨j + 1, by simp, by omega, by rw [HW.out], HN2⟩
                case measure => simp [intOf]; omega
            · have hjz : ¬ (j : Int) < (m : Int) := by omega
              obtain rfl : j = m := by omega
              rw [show is.take j = is by rw [← HM.out.1, List.take_length]] at HJ ⊢
              have hnei : is ≠ [] := fun e => by rw [e] at HM; have := HM.out.1; simp at this; omega
              obtain ⟨k0, rr, rfl⟩ := List.exists_cons_of_ne_nil hnei
              clear hnei
              obtain ⟨g, cc, e, hcc, c0⟩ := HAL2.out.io.get (j := 0) (by simp) rfl
              rw [HM.out.1] at e hcc
              obtain ⟨rfl, rfl⟩ : la = some ⟨g, 0, none⟩ ∧ lc = cc := by
                injection e with e1 e2 e3
                exact ⟨e1, e3⟩
              clear e c0
              have hccz : (j : Int) ≤ (lc : Int) := by omega
              have hk08 : k0 < 8 := HAL2.out.l8 k0 (by simp)
              cases hf : (k0 :: rr).filter (hbs bs) with
              | nil =>
                rw [hf] at HJ
                rw [show wnt [] = -1 from rfl]
                clear hf
                go_wp2_with fail
                refine (below_walk wr z 30 (by omega) (by omega)).mono ?_
                rintro e w9 ⟨T, rfl, hT, h9⟩
                obtain rfl := h9.symm
                clear h9
                dsimp only
                have hA := HJ.out.any (.slice (some ⟨g, 0, none⟩) j lc) (k0 :: rr) T HAL2.out.io (by simp) (fun i hi => by rw [XA_len]; exact HAL2.out.l8 i hi) (by rw [HM.out.1]; exact hml) HAL2.out.nd (by omega) (by show 0 ≤ _; omega) (by omega)
                rw [HNB.out.1, XA_none T 0 HAL2.out.l8 (by simp)] at hA
                dsimp only at hA
                go_wp2_with fail
                refine hA.mono ?_
                rintro e W7 ⟨mv, rfl, om, S7, h9⟩
                rw [Nat.zero_add] at h9
                have HJx := Hid.of (HJ.out.st h9)
                have HNx := Hid.of (And.intro (h9.nb.trans HNB.out.1) trivial)
                have HIx := Hid.of (h9.fr.own HAL2.out.io (int_not_own HJ.out.ok HAL2.out.io))
                have hNw := Now_walk W7 S7 HJx.out.ok
                rw [HNx.out.1, HJx.out.now, show (XA T []).now = T from rfl] at hNw
                have HK0 := Hid.of (show k0 ∉ ([] : List Nat) from fun h => by cases h)
                obtain ⟨ma, mc, rfl, _⟩ := Ow.sb om
                obtain ⟨js, hjs⟩ : ∃ js : List Nat, js = [] := ⟨_, rfl⟩
                rw [← hjs] at HJx HK0
                have HCx := Hid.of (show W7.cell? ⟨g, 0, none⟩ = some (.int .i64 (k0 : Int)) from by
                  obtain ⟨g', c', e', _, c0⟩ := IOwn.get (show IOwn W7 W3.heap.size (.slice (some ⟨g, 0, none⟩) j lc) (k0 :: rr) from HIx.out) (j := 0) (by simp) rfl
                  obtain rfl : g = g' := by
                    injection e' with e1
                    injection e1 with e1
                    injection e1
                  exact c0)
                clear h9 hA om HJ HNB HAL2 hjs
                dsimp only
                have c1 := HCx.out
                have HO7 := Hid.of (ow_one W7 77)
                have HU7 := Hid.of ((Up.refl W7).alloc (.cells #[.int .u8 ((77 : UInt8).toNat : Int)] 5))
                rw [show (((77 : UInt8).toNat : Int)) = (77 : Int) from rfl] at HO7 HU7
                go_wp2_with (first | (go_at_call 13; refine (num_walk _ _).mono ?_; rintro _ w9 ⟨rfl, h9⟩; obtain rfl := h9.symm; clear h9; dsimp only) | (go_at_call 16; refine hNw.mono ?_; rintro _ w9 ⟨rfl, h9⟩; obtain rfl := h9.symm; clear h9; dsimp only))
                generalize W7.alloc (.cells #[.int .u8 (77 : Int)] 5) = W8 at *
                obtain ⟨f1, f2, f3⟩ := XA_77 T hk08 HK0.out
                have hS := (HJx.out.up' HU7.out).send k0 (.slice (some ⟨W7.heap.size, 0, none⟩) 1 1) [77] (XA_get T _ hk08) (Ow.sb HO7.out) (fun g hg => row_tag HO7.out hg) (by simp) (by show T ≤ _; omega) (by omega)
                rw [HNx.out.1] at hS
                refine hS.mono ?_
                rintro e w9 ⟨rfl, S9, h9⟩
                have HJ9 := Hid.of ((HJx.out.up' HU7.out).st h9)
                have HN9 := Hid.of (And.intro (h9.nb.trans HNx.out.1) trivial)
                have HI9 := Hid.of (h9.fr.own (ow_up HIx.out HU7.out) (int_not_own (HJx.out.up' HU7.out).ok (ow_up HIx.out HU7.out)))
                have HF := Hid.of (And.intro f1 (And.intro f2 f3))
                have HC9 := Hid.of (show w9.cell? ⟨g, 0, none⟩ = some (.int .i64 (k0 : Int)) from by
                  obtain ⟨g', c', e', _, c0⟩ := IOwn.get (show IOwn w9 W3.heap.size (.slice (some ⟨g, 0, none⟩) j lc) (k0 :: rr) from HI9.out) (j := 0) (by simp) rfl
                  obtain rfl : g = g' := by
                    injection e' with e1
                    injection e1 with e1
                    injection e1
                  exact c0)
                clear f1 f2 f3 hS h9 c1 HJx HNx HIx HCx HO7 HU7 HK0
                obtain ⟨l9, hl9, _, hl9b⟩ := abs_get HJ9.out.ab HF.out.1
                have hWt := Waiting_yes w9 S9 k0 l9 HJ9.out.ok hl9
                rw [HN9.out.1, show l9.ms.length = 1 by have := congrArg List.length hl9b; simpa using this] at hWt
                clear hl9 hl9b
                generalize SendA (XA T js) k0 [77] = B at *
                have c1 := HC9.out
                dsimp only
                go_wp2_with fail
                refine hWt.mono ?_
                rintro e w8 ⟨rfl, h8⟩
                obtain rfl := h8.symm
                clear h8 hWt c1
                dsimp only
                go_wp2_with (go_at_call 13; refine (num_walk _ _).mono ?_; rintro _ w9 ⟨rfl, h9⟩; obtain rfl := h9.symm; clear h9; dsimp only)
                go_loopw [24, 25, 26] (fun v24 _ _ w2 => v24 = .int .i64 1 ∧ Hid (w2 = w9)) (fun _ _ _ _ => 0)
                case atStart => exact ⟨rfl, Hid.of rfl⟩
                case round =>
                  obtain ⟨rfl, hw2⟩ := hrel
                  obtain rfl := hw2.out
                  clear hw2
                  have hA := HJ9.out.any (.slice (some ⟨g, 0, none⟩) 1 lc) [k0] 0 (IOwn.one HI9.out) (by simp) (fun i hi => by
                    obtain rfl := List.mem_singleton.1 hi
                    exact (List.getElem?_eq_some_iff.1 HF.out.1).1) (by simp) (fun i => by rw [List.count_cons, List.count_nil]; split <;> omega) (by omega) (by rw [HF.out.2.1]; omega) (by omega)
                  rw [HN9.out.1, HF.out.2.2] at hA
                  dsimp only at hA
                  have hlc1 : (1 : Int) ≤ (lc : Int) := by omega
                  go_wp2_with fail
                  refine hA.mono ?_
                  rintro e w10 ⟨mv, rfl, om, S10, h9⟩
                  have HU10 := Hid.of (HJ9.out.st h9).up
                  have hC10 : w10.cell? ⟨g, 0, none⟩ = some (.int .i64 (k0 : Int)) := by
                    have HI10 := h9.fr.own HI9.out (int_not_own HJ9.out.ok HI9.out)
                    obtain ⟨g', c', e', _, c0⟩ := IOwn.get (show IOwn w10 W3.heap.size (.slice (some ⟨g, 0, none⟩) j lc) (k0 :: rr) from HI10) (j := 0) (by simp) rfl
                    obtain rfl : g = g' := by
                      injection e' with e1
                      injection e1 with e1
                      injection e1
                    exact c0
                  obtain ⟨g3, k3, rfl, hk3⟩ := ow_shape1 om
                  have x3 := (ow_cells om (i := 0) (by simp)).1
                  have y3 : (1 : Int) ≤ (k3 : Int) := by omega
                  simp only [List.getElem_cons_zero] at x3
                  clear h9 hA om
                  dsimp only
                  go_wp2_with (go_at_call 13; refine (num_walk _ _).mono ?_; rintro _ w9 ⟨rfl, h9⟩; obtain rfl := h9.symm; clear h9; dsimp only)
                  go_ret
                  exact ⟨rfl, HU10.out⟩
              | cons k r =>
                rw [hf] at HJ
                rw [show wnt (k :: r) = (k : Int) from rfl]
                have hkr := head_notin HAL2.out.nd (hbs bs) hf
                have hkz : (0 : Int) ≤ (k : Int) := by omega
                have HK0 := Hid.of (show k0 ∉ r from fun h => by
                  have hm : k0 ∈ (k0 :: rr).filter (hbs bs) := by rw [hf]; simp [h]
                  have hp := (List.mem_filter.1 hm).2
                  rw [List.filter_cons_of_pos hp] at hf
                  injection hf with h1 h2
                  subst h1
                  exact hkr h)
                have hk8 : k < 8 := HAL2.out.l8 k (by
                  have : k ∈ (k0 :: rr).filter (hbs bs) := by rw [hf]; simp
                  exact (List.mem_filter.1 this).1)
                have HXA := Hid.of (fun n => XA_any 0 n HAL2.out.l8 hf hkr)
                clear hf hkr
                go_wp2_with fail
                refine (below_walk wr z 30 (by omega) (by omega)).mono ?_
                rintro e w9 ⟨T0, rfl, hT0, h9⟩
                obtain rfl := h9.symm
                clear h9
                dsimp only
                have hA := HJ.out.any (.slice (some ⟨g, 0, none⟩) j lc) (k0 :: rr) T0 HAL2.out.io (by simp) (fun i hi => by rw [XA_len]; exact HAL2.out.l8 i hi) (by rw [HM.out.1]; exact hml) HAL2.out.nd (by omega) (by show 0 ≤ _; omega) (by omega)
                rw [HNB.out.1, HXA.out T0] at hA
                dsimp only at hA
                go_wp2_with fail
                refine hA.mono ?_
                rintro e W7 ⟨mv, rfl, om, S7, h9⟩
                have HJx := Hid.of (HJ.out.st h9)
                have HNx := Hid.of (And.intro (h9.nb.trans HNB.out.1) trivial)
                have HIx := Hid.of (h9.fr.own HAL2.out.io (int_not_own HJ.out.ok HAL2.out.io))
                have hNw := Now_walk W7 S7 HJx.out.ok
                rw [HNx.out.1, HJx.out.now, show (XA 0 r).now = 0 from rfl] at hNw
                obtain ⟨g2, k2, rfl, hk2⟩ := ow_shape1 om
                have x2 := (ow_cells om (i := 0) (by simp)).1
                have y2 : (1 : Int) ≤ (k2 : Int) := by omega
                simp only [List.getElem_cons_zero] at x2
                rw [show ((UInt8.ofNat k).toNat : Int) = (k : Int) by rw [UInt8.toNat_ofNat', Nat.mod_eq_of_lt (by omega)]] at x2
                have hbw : IntKind.i64.wrap (k : Int) = (k : Int) := by rw [IntKind.wrap_i64]; omega
                obtain ⟨js, hjs⟩ : ∃ js : List Nat, js = r := ⟨_, rfl⟩
                rw [← hjs] at HJx HK0
                obtain ⟨T, hT'⟩ : ∃ T : Nat, T = 0 := ⟨_, rfl⟩
                have hT : T < 30 := by omega
                have HCx := Hid.of (show W7.cell? ⟨g, 0, none⟩ = some (.int .i64 (k0 : Int)) from by
                  obtain ⟨g', c', e', _, c0⟩ := IOwn.get (show IOwn W7 W3.heap.size (.slice (some ⟨g, 0, none⟩) j lc) (k0 :: rr) from HIx.out) (j := 0) (by simp) rfl
                  obtain rfl : g = g' := by
                    injection e' with e1
                    injection e1 with e1
                    injection e1
                  exact c0)
                clear h9 hA om HJ HNB HAL2 hjs HXA
                dsimp only
                rw [← hT'] at HJx
                have c1 := HCx.out
                have HO7 := Hid.of (ow_one W7 77)
                have HU7 := Hid.of ((Up.refl W7).alloc (.cells #[.int .u8 ((77 : UInt8).toNat : Int)] 5))
                rw [show (((77 : UInt8).toNat : Int)) = (77 : Int) from rfl] at HO7 HU7
                go_wp2_with (first | (go_at_call 13; refine (num_walk _ _).mono ?_; rintro _ w9 ⟨rfl, h9⟩; obtain rfl := h9.symm; clear h9; dsimp only) | (go_at_call 16; refine hNw.mono ?_; rintro _ w9 ⟨rfl, h9⟩; obtain rfl := h9.symm; clear h9; dsimp only))
                generalize W7.alloc (.cells #[.int .u8 (77 : Int)] 5) = W8 at *
                obtain ⟨f1, f2, f3⟩ := XA_77 T hk08 HK0.out
                have hS := (HJx.out.up' HU7.out).send k0 (.slice (some ⟨W7.heap.size, 0, none⟩) 1 1) [77] (XA_get T _ hk08) (Ow.sb HO7.out) (fun g hg => row_tag HO7.out hg) (by simp) (by show T ≤ _; omega) (by omega)
                rw [HNx.out.1] at hS
                refine hS.mono ?_
                rintro e w9 ⟨rfl, S9, h9⟩
                have HJ9 := Hid.of ((HJx.out.up' HU7.out).st h9)
                have HN9 := Hid.of (And.intro (h9.nb.trans HNx.out.1) trivial)
                have HI9 := Hid.of (h9.fr.own (ow_up HIx.out HU7.out) (int_not_own (HJx.out.up' HU7.out).ok (ow_up HIx.out HU7.out)))
                have HF := Hid.of (And.intro f1 (And.intro f2 f3))
                have HC9 := Hid.of (show w9.cell? ⟨g, 0, none⟩ = some (.int .i64 (k0 : Int)) from by
                  obtain ⟨g', c', e', _, c0⟩ := IOwn.get (show IOwn w9 W3.heap.size (.slice (some ⟨g, 0, none⟩) j lc) (k0 :: rr) from HI9.out) (j := 0) (by simp) rfl
                  obtain rfl : g = g' := by
                    injection e' with e1
                    injection e1 with e1
                    injection e1
                  exact c0)
                clear f1 f2 f3 hS h9 c1 HJx HNx HIx HCx HO7 HU7 HK0
                obtain ⟨l9, hl9, _, hl9b⟩ := abs_get HJ9.out.ab HF.out.1
                have hWt := Waiting_yes w9 S9 k0 l9 HJ9.out.ok hl9
                rw [HN9.out.1, show l9.ms.length = 1 by have := congrArg List.length hl9b; simpa using this] at hWt
                clear hl9 hl9b
                generalize SendA (XA T js) k0 [77] = B at *
                have c1 := HC9.out
                dsimp only
                go_wp2_with fail
                refine hWt.mono ?_
                rintro e w8 ⟨rfl, h8⟩
                obtain rfl := h8.symm
                clear h8 hWt c1
                dsimp only
                go_wp2_with (go_at_call 13; refine (num_walk _ _).mono ?_; rintro _ w9 ⟨rfl, h9⟩; obtain rfl := h9.symm; clear h9; dsimp only)
                go_loopw [24, 25, 26] (fun v24 _ _ w2 => v24 = .int .i64 1 ∧ Hid (w2 = w9)) (fun _ _ _ _ => 0)
                case atStart => exact ⟨rfl, Hid.of rfl⟩
                case round =>
                  obtain ⟨rfl, hw2⟩ := hrel
                  obtain rfl := hw2.out
                  clear hw2
                  have hA := HJ9.out.any (.slice (some ⟨g, 0, none⟩) 1 lc) [k0] 0 (IOwn.one HI9.out) (by simp) (fun i hi => by
                    obtain rfl := List.mem_singleton.1 hi
                    exact (List.getElem?_eq_some_iff.1 HF.out.1).1) (by simp) (fun i => by rw [List.count_cons, List.count_nil]; split <;> omega) (by omega) (by rw [HF.out.2.1]; omega) (by omega)
                  rw [HN9.out.1, HF.out.2.2] at hA
                  dsimp only at hA
                  have hlc1 : (1 : Int) ≤ (lc : Int) := by omega
                  go_wp2_with fail
                  refine hA.mono ?_
                  rintro e w10 ⟨mv, rfl, om, S10, h9⟩
                  have HU10 := Hid.of (HJ9.out.st h9).up
                  have hC10 : w10.cell? ⟨g, 0, none⟩ = some (.int .i64 (k0 : Int)) := by
                    have HI10 := h9.fr.own HI9.out (int_not_own HJ9.out.ok HI9.out)
                    obtain ⟨g', c', e', _, c0⟩ := IOwn.get (show IOwn w10 W3.heap.size (.slice (some ⟨g, 0, none⟩) j lc) (k0 :: rr) from HI10) (j := 0) (by simp) rfl
                    obtain rfl : g = g' := by
                      injection e' with e1
                      injection e1 with e1
                      injection e1
                    exact c0
                  obtain ⟨g3, k3, rfl, hk3⟩ := ow_shape1 om
                  have x3 := (ow_cells om (i := 0) (by simp)).1
                  have y3 : (1 : Int) ≤ (k3 : Int) := by omega
                  simp only [List.getElem_cons_zero] at x3
                  clear h9 hA om
                  dsimp only
                  go_wp2_with (go_at_call 13; refine (num_walk _ _).mono ?_; rintro _ w9 ⟨rfl, h9⟩; obtain rfl := h9.symm; clear h9; dsimp only)
                  go_ret
                  exact ⟨rfl, HU10.out⟩
        · have hltz : ¬ (j : Int) < (zn : Int) := by omega
          go_wp2
          have HL0 := Hid.of (show ∃ S, LJ w wr S (XA 0 ((is.take 0).filter (hbs bs))) 0 ∧ S.nb = nb ∧ AL wr W3.heap.size (.slice la m lc) is from ⟨S, HJ0.out.up' HU.out, HNB0.out.1, HAL.out⟩)
          clear HJ0 HNB0 HU HAL
          go_loopw [14, 15, 16] (fun v14 v15 _ wr => ∃ j : Nat, v15 = .int .i64 (j : Int) ∧ j ≤ m ∧ v14 = .int .i64 (wnt ((is.take j).filter (hbs bs))) ∧ Hid (∃ S, LJ w wr S (XA 0 ((is.take j).filter (hbs bs))) j ∧ S.nb = nb ∧ AL wr W3.heap.size (.slice la m lc) is)) (fun _ v15 _ _ => m - (intOf v15).toNat)
          case atStart => exact ⟨0, rfl, by omega, rfl, HL0⟩
          case round =>
            clear HL0
            obtain ⟨j, rfl, hjm, rfl, hR⟩ := hrel
            obtain ⟨S1, hJ1, hnb1, hAL1⟩ := hR.out
            have HJ := Hid.of hJ1
            have HNB := Hid.of (And.intro hnb1 trivial)
            have HAL2 := Hid.of hAL1
            clear hR hJ1 hnb1 hAL1
            by_cases hlt : j < m
            · have hjz : (j : Int) < (m : Int) := by omega
              have hjw : IntKind.i64.wrap ((j : Int) + 1) = (j : Int) + 1 := by rw [IntKind.wrap_i64]; omega
              have hjl : j < is.length := by rw [HM.out.1]; exact hlt
              obtain ⟨k, hk⟩ : ∃ k, is[j] = k := ⟨_, rfl⟩
              obtain ⟨g, cc, e, hcc, ck⟩ := HAL2.out.io.get hjl hk
              rw [HM.out.1] at e hcc
              obtain ⟨rfl, rfl⟩ : la = some ⟨g, 0, none⟩ ∧ lc = cc := by
                injection e with e1 e2 e3
                exact ⟨e1, e3⟩
              have hccz : (m : Int) ≤ (lc : Int) := by omega
              have hk8 : k < 8 := HAL2.out.l8 k (hk ▸ List.getElem_mem hjl)
              have HFS := Hid.of (filt_snoc (hbs bs) hjl hk)
              have HNI := Hid.of (show k ∉ (is.take j).filter (hbs bs) from fun h => not_before HAL2.out.nd hjl hk (List.mem_filter.1 h).1)
              have HCW := Hid.of ck
              have HKJ := Hid.of hk
              clear e hcc hk
              by_cases hkb : k < bn
              · have hkbz : (k : Int) < (bn : Int) := by omega
                have hkl : k < bs.length := by rw [HBN.out.1]; exact hkb
                obtain ⟨y, hy⟩ : ∃ y, bs[k] = y := ⟨_, rfl⟩
                have hyb : hbs bs k = y := by unfold hbs; rw [List.getElem?_eq_getElem hkl, hy]; rfl
                obtain ⟨bb, bo, rfl, cb0⟩ := HB.out k y (by rw [List.getElem?_eq_getElem hkl, hy])
                have cb1 := HJ.out.up.cell cb0
                have hbcz : (bn : Int) ≤ (bc : Int) := by omega
                rw [hyb] at HFS
                clear hy hyb cb0
                cases y with
                | false =>
                  rw [if_neg (by simp), List.append_nil] at HFS
                  have HN2 := Hid.of (show ∃ S, LJ w wr S (XA 0 ((is.take (j + 1)).filter (hbs bs))) (j + 1) ∧ S.nb = nb ∧ AL wr W3.heap.size (.slice (some ⟨g, 0, none⟩) m lc) is from ⟨S1, by rw [HFS.out]; exact HJ.out.more (by omega), HNB.out.1, HAL2.out⟩)
                  have HW := Hid.of (show wnt ((is.take (j + 1)).filter (hbs bs)) = wnt ((is.take j).filter (hbs bs)) by rw [HFS.out])
                  clear HJ HNB
                  generalize wnt ((is.take j).filter (hbs bs)) = wj at *
                  go_wp2
                  go_roundw
                  case rel => exact ⟨j + 1, by simp, by omega, by rw [HW.out], HN2⟩
                  case measure => simp [intOf]; omega
                | true =>
                  rw [if_pos rfl] at HFS
                  have hbw : IntKind.u8.wrap (k : Int) = (k : Int) := by simp only [IntKind.wrap, IntKind.signed, IntKind.bits]; simp; omega
                  have HE1 := Hid.of (show ((UInt8.ofNat k).toNat : Int) = (k : Int) by rw [UInt8.toNat_ofNat', Nat.mod_eq_of_lt (by omega)])
                  have HCL := HCW
                  have HIO := Hid.of HAL2.out.io
                  go_wp2_with fail
                  clear cb1 ck
                  refine wp_region_held_drew (S := fun w2 => w2.cell? ⟨g, j, none⟩ = some (.int .i64 (k : Int)) ∧ Up w w2) (by kernel_rfl) ⟨(Up.refl wr).drew.cell HCL.out, HJ.out.up.drew⟩ (fun hS => ?_)
                  refine wpAnyH_take (i := 0) (oi := { dst := some 102, op := Go.Op.move (Go.Operand.tmp 7), type := 22, pos := "outright.go:354", after := #[], guard := none }) (v := .pointer (some ⟨nb, 0, none⟩)) rfl (by kernel_rfl) (by kernel_rfl) (by kernel_rfl) (fun _ _ _ h => h) (Or.inl ⟨by kernel_rfl, ?_⟩) hS ?_
                  · intro w5 hSw
                    clear hSw hS
                    go_simp
                  simp only [Act.put, List.setIfInBounds_toArray, List.set_cons_zero, List.set_cons_succ]
                  refine wpAnyH_take (i := 1) (oi := { dst := some 103, op := Go.Op.move (Go.Operand.tmp 9), type := 51, pos := "outright.go:354", after := #[], guard := none }) (v := .slice (some ⟨g, 0, none⟩) m lc) rfl (by kernel_rfl) (by kernel_rfl) (by kernel_rfl) (fun _ _ _ h => h) (Or.inl ⟨by kernel_rfl, ?_⟩) hS ?_
                  · intro w5 hSw
                    clear hSw hS
                    go_simp
                  simp only [Act.put, List.setIfInBounds_toArray, List.set_cons_zero, List.set_cons_succ]
                  refine wpAnyH_take (i := 2) (oi := { dst := some 104, op := Go.Op.move (Go.Operand.tmp 15), type := 3, pos := "outright.go:354", after := #[], guard := none }) (v := .int .i64 (j : Int)) rfl (by kernel_rfl) (by kernel_rfl) (by kernel_rfl) (fun _ _ _ h => h) (Or.inl ⟨by kernel_rfl, ?_⟩) hS ?_
                  · intro w5 hSw
                    clear hSw hS
                    go_simp
                  simp only [Act.put, List.setIfInBounds_toArray, List.set_cons_zero, List.set_cons_succ]
                  refine wpAnyH_take (i := 3) (oi := { dst := some 105, op := Go.Op.indexAddr 51 (Go.Operand.tmp 103) (Go.Operand.tmp 104), type := 0, pos := "outright.go:354", after := #[{ on := 1, ground := Go.Ground.data }, { on := 2, ground := Go.Ground.data }], guard := none }) (v := .pointer (some ⟨g, j, none⟩)) rfl (by kernel_rfl) (by kernel_rfl) (by kernel_rfl) (fun _ _ _ h => h) (Or.inl ⟨by kernel_rfl, ?_⟩) hS ?_
                  · intro w5 hSw
                    clear hSw hS
                    go_simp
                  simp only [Act.put, List.setIfInBounds_toArray, List.set_cons_zero, List.set_cons_succ]
                  refine wpAnyH_take (i := 4) (oi := { dst := some 106, op := Go.Op.load 3 (Go.Operand.tmp 105), type := 3, pos := "outright.go:354", after := #[{ on := 3, ground := Go.Ground.data }], guard := none }) (v := .int .i64 (k : Int)) rfl (by kernel_rfl) (by kernel_rfl) (by kernel_rfl) (fun _ _ _ h => h) (Or.inl ⟨by kernel_rfl, ?_⟩) hS ?_
                  · intro w5 hSw
                    have c0 := hSw.1
                    clear hSw hS
                    go_simp
                  simp only [Act.put, List.setIfInBounds_toArray, List.set_cons_zero, List.set_cons_succ]
                  refine wpAnyH_take (i := 5) (oi := { dst := some 107, op := Go.Op.move (Go.Operand.tmp 9), type := 51, pos := "outright.go:354", after := #[], guard := none }) (v := .slice (some ⟨g, 0, none⟩) m lc) rfl (by kernel_rfl) (by kernel_rfl) (by kernel_rfl) (fun _ _ _ h => h) (Or.inl ⟨by kernel_rfl, ?_⟩) hS ?_
                  · intro w5 hSw
                    clear hSw hS
                    go_simp
                  simp only [Act.put, List.setIfInBounds_toArray, List.set_cons_zero, List.set_cons_succ]
                  refine wpAnyH_take (i := 6) (oi := { dst := some 108, op := Go.Op.move (Go.Operand.tmp 15), type := 3, pos := "outright.go:354", after := #[], guard := none }) (v := .int .i64 (j : Int)) rfl (by kernel_rfl) (by kernel_rfl) (by kernel_rfl) (fun _ _ _ h => h) (Or.inl ⟨by kernel_rfl, ?_⟩) hS ?_
                  · intro w5 hSw
                    clear hSw hS
                    go_simp
                  simp only [Act.put, List.setIfInBounds_toArray, List.set_cons_zero, List.set_cons_succ]
                  refine wpAnyH_take (i := 7) (oi := { dst := some 109, op := Go.Op.indexAddr 51 (Go.Operand.tmp 107) (Go.Operand.tmp 108), type := 0, pos := "outright.go:354", after := #[{ on := 5, ground := Go.Ground.data }, { on := 6, ground := Go.Ground.data }], guard := none }) (v := .pointer (some ⟨g, j, none⟩)) rfl (by kernel_rfl) (by kernel_rfl) (by kernel_rfl) (fun _ _ _ h => h) (Or.inl ⟨by kernel_rfl, ?_⟩) hS ?_
                  · intro w5 hSw
                    clear hSw hS
                    go_simp
                  simp only [Act.put, List.setIfInBounds_toArray, List.set_cons_zero, List.set_cons_succ]
                  refine wpAnyH_take (i := 8) (oi := { dst := some 110, op := Go.Op.load 3 (Go.Operand.tmp 109), type := 3, pos := "outright.go:354", after := #[{ on := 7, ground := Go.Ground.data }], guard := none }) (v := .int .i64 (k : Int)) rfl (by kernel_rfl) (by kernel_rfl) (by kernel_rfl) (fun _ _ _ h => h) (Or.inl ⟨by kernel_rfl, ?_⟩) hS ?_
                  · intro w5 hSw
                    have c0 := hSw.1
                    clear hSw hS
                    go_simp
                  simp only [Act.put, List.setIfInBounds_toArray, List.set_cons_zero, List.set_cons_succ]
                  refine wpAnyH_take (i := 9) (oi := { dst := some 111, op := Go.Op.convert 3 5 (Go.Operand.tmp 110), type := 5, pos := "outright.go:354", after := #[{ on := 8, ground := Go.Ground.data }], guard := none }) (v := .int .u8 (k : Int)) rfl (by kernel_rfl) (by kernel_rfl) (by kernel_rfl) (fun _ _ _ h => h) (Or.inl ⟨by kernel_rfl, ?_⟩) hS ?_
                  · intro w5 hSw
                    clear hSw hS
                    go_simp
                  simp only [Act.put, List.setIfInBounds_toArray, List.set_cons_zero, List.set_cons_succ]
                  refine wpAnyH_ready (rs := [10]) (by kernel_rfl) (by simp) ?_
                  refine AllReadyH.cons (o := { dst := some 112, op := Go.Op.buildSlice 47 1 #[(0, Go.Operand.tmp 111)], type := 47, pos := "outright.go:354", after := #[{ on := 9, ground := Go.Ground.data }], guard := none }) rfl (fun K hK => ?_) AllReadyH.nil
                  rw [if_pos (by kernel_rfl)]
                  go_simp
                  have HU4 := Hid.of (((Up.refl wr).alloc (.cells #[.int .u8 (k : Int)] 5)).drew)
                  have HO4 := Hid.of (ow_up (ow_one wr (UInt8.ofNat k)) (Up.refl _).drew)
                  rw [HE1.out] at HO4
                  generalize (wr.alloc (.cells #[.int .u8 (k : Int)] 5)).drew = W4 at *
                  refine hK.out _ _ ⟨HU4.out.cell HCL.out, HJ.out.up.trans HU4.out⟩ (fun hS2 => ?_)
                  clear hK K hS
                  have hS := hS2
                  clear hS2
                  refine wpAnyH_ready (rs := [11]) (by kernel_rfl) (by simp) ?_
                  refine AllReadyH.cons (o := { dst := some 113, op := Go.Op.call { callee := Go.Callee.value (Go.Operand.func 18), args := #[Go.Operand.tmp 102, Go.Operand.tmp 106, Go.Operand.tmp 112], argTypes := #[22, 3, 47] }, type := 23, pos := "outright.go:354", after := #[{ on := 0, ground := Go.Ground.data }, { on := 4, ground := Go.Ground.data }, { on := 10, ground := Go.Ground.data }], guard := none }) rfl (fun K hK => ?_) AllReadyH.nil
                  rw [if_pos (by kernel_rfl)]
                  have hS9 := (HJ.out.up' HU4.out).send k (.slice (some ⟨wr.heap.size, 0, none⟩) 1 1) [UInt8.ofNat k] (XA_get 0 _ hk8) (Ow.sb HO4.out) (fun g hg => row_tag HO4.out hg) (by simp) (by show 0 ≤ _; omega) (by omega)
                  rw [HNB.out.1] at hS9
                  go_simp
                  refine hS9.mono ?_
                  rintro e w5 ⟨rfl, S5, h9⟩
                  dsimp only
                  have HJ5 := Hid.of ((HJ.out.up' HU4.out).st h9)
                  have HI5 := Hid.of (h9.fr.own (ow_up HIO.out HU4.out) (int_not_own (HJ.out.up' HU4.out).ok (ow_up HIO.out HU4.out)))
                  have HN5 := Hid.of (And.intro (h9.nb.trans HNB.out.1) trivial)
                  rw [XA_send 0 _ hk8 HNI.out] at HJ5
                  have HX5 := Hid.of (IOwn.get (show IOwn w5 W3.heap.size (.slice (some ⟨g, 0, none⟩) m lc) is from HI5.out) hjl HKJ.out)
                  have HC5 := Hid.of (show w5.cell? ⟨g, j, none⟩ = some (.int .i64 (k : Int)) from by
                    obtain ⟨g', c', e', _, c0⟩ := HX5.out
                    obtain rfl : g = g' := by
                      injection e' with e1
                      injection e1 with e1
                      injection e1
                    exact c0)
                  clear h9 hS9 hS HX5
                  refine hK.out _ _ ⟨HC5.out, HJ5.out.up⟩ (fun hS2 => ?_)
                  clear hK K
                  have hS := hS2
                  clear hS2
                  refine wpAnyH_ready (rs := [12]) (by kernel_rfl) (by simp) ?_
                  refine AllReadyH.cons (o := { dst := some 16, op := Go.Op.assign (Go.Operand.tmp 113), type := 23, pos := "outright.go:354", after := #[{ on := 11, ground := Go.Ground.data }, { on := 11, ground := Go.Ground.chain }, { on := 0, ground := Go.Ground.phase }, { on := 1, ground := Go.Ground.phase }, { on := 2, ground := Go.Ground.phase }, { on := 3, ground := Go.Ground.phase }, { on := 4, ground := Go.Ground.phase }, { on := 5, ground := Go.Ground.phase }, { on := 6, ground := Go.Ground.phase }, { on := 7, ground := Go.Ground.phase }, { on := 8, ground := Go.Ground.phase }, { on := 9, ground := Go.Ground.phase }, { on := 10, ground := Go.Ground.phase }, { on := 11, ground := Go.Ground.phase }], guard := none }) rfl (fun K hK => ?_) AllReadyH.nil
                  rw [if_pos (by kernel_rfl)]
                  go_simp
                  refine hK.out _ _ hS (fun hS2 => ?_)
                  clear hK K hS hS2
                  refine wpAnyH_done (by kernel_rfl) ?_ _
                  have HN2 := Hid.of (show ∃ S, LJ w w5 S (XA 0 ((is.take (j + 1)).filter (hbs bs))) (j + 1) ∧ S.nb = nb ∧ AL w5 W3.heap.size (.slice (some ⟨g, 0, none⟩) m lc) is from ⟨S5, by rw [HFS.out]; exact HJ5.out, HN5.out.1, ⟨HI5.out, HAL2.out.l8, HAL2.out.nd⟩⟩)
                  clear HJ HJ5 HI5 HN5 HIO HNB HNI HCL
                  by_cases hjs : (is.take j).filter (hbs bs) = []
                  · rw [hjs, show wnt [] = -1 from rfl]
                    have HW := Hid.of (show wnt ((is.take (j + 1)).filter (hbs bs)) = (k : Int) by rw [HFS.out, hjs]; rfl)
                    clear hjs
                    have c0 := HC5.out
                    go_wp2_with (go_at_call 13; refine (num_walk _ _).mono ?_; rintro _ w9 ⟨rfl, h9⟩; obtain rfl := h9.symm; clear h9; dsimp only)
                    go_roundw
                    case rel => exact ⟨j + 1, by simp, by omega, by rw [HW.out], HN2⟩
                    case measure => simp [intOf]; omega
                  · obtain ⟨k0, r0, hk0⟩ := List.exists_cons_of_ne_nil hjs
                    rw [hk0, show wnt (k0 :: r0) = (k0 : Int) from rfl]
                    have HW := Hid.of (show wnt ((is.take (j + 1)).filter (hbs bs)) = (k0 : Int) by rw [HFS.out, hk0]; rfl)
                    have hk0z : ¬ (k0 : Int) < 0 := by omega
                    clear hjs hk0
                    go_wp2_with (go_at_call 13; refine (num_walk _ _).mono ?_; rintro _ w9 ⟨rfl, h9⟩; obtain rfl := h9.symm; clear h9; dsimp only)
                    go_roundw
                    case rel => exact ⟨j + 1, by simp, by omega, by rw [HW.out], HN2⟩
                    case measure => simp [intOf]; omega
              · have hkbz : ¬ (k : Int) < (bn : Int) := by omega
                have hyb : hbs bs k = false := by unfold hbs; rw [List.getElem?_eq_none (by rw [HBN.out.1]; omega)]; rfl
                rw [hyb, if_neg (by simp), List.append_nil] at HFS
                clear hyb hkb
                have HN2 := Hid.of (show ∃ S, LJ w wr S (XA 0 ((is.take (j + 1)).filter (hbs bs))) (j + 1) ∧ S.nb = nb ∧ AL wr W3.heap.size (.slice (some ⟨g, 0, none⟩) m lc) is from ⟨S1, by rw [HFS.out]; exact HJ.out.more (by omega), HNB.out.1, HAL2.out⟩)
                have HW := Hid.of (show wnt ((is.take (j + 1)).filter (hbs bs)) = wnt ((is.take j).filter (hbs bs)) by rw [HFS.out])
                clear HJ HNB
                generalize wnt ((is.take j).filter (hbs bs)) = wj at *
                go_wp2
                go_roundw
                case rel => exact ⟨j + 1, by simp, by omega, by rw [HW.out], HN2⟩
                case measure => simp [intOf]; omega
            · have hjz : ¬ (j : Int) < (m : Int) := by omega
              obtain rfl : j = m := by omega
              rw [show is.take j = is by rw [← HM.out.1, List.take_length]] at HJ ⊢
              have hnei : is ≠ [] := fun e => by rw [e] at HM; have := HM.out.1; simp at this; omega
              obtain ⟨k0, rr, rfl⟩ := List.exists_cons_of_ne_nil hnei
              clear hnei
              obtain ⟨g, cc, e, hcc, c0⟩ := HAL2.out.io.get (j := 0) (by simp) rfl
              rw [HM.out.1] at e hcc
              obtain ⟨rfl, rfl⟩ : la = some ⟨g, 0, none⟩ ∧ lc = cc := by
                injection e with e1 e2 e3
                exact ⟨e1, e3⟩
              clear e c0
              have hccz : (j : Int) ≤ (lc : Int) := by omega
              have hk08 : k0 < 8 := HAL2.out.l8 k0 (by simp)
              cases hf : (k0 :: rr).filter (hbs bs) with
              | nil =>
                rw [hf] at HJ
                rw [show wnt [] = -1 from rfl]
                clear hf
                go_wp2_with fail
                refine (below_walk wr z 30 (by omega) (by omega)).mono ?_
                rintro e w9 ⟨T, rfl, hT, h9⟩
                obtain rfl := h9.symm
                clear h9
                dsimp only
                have hA := HJ.out.any (.slice (some ⟨g, 0, none⟩) j lc) (k0 :: rr) T HAL2.out.io (by simp) (fun i hi => by rw [XA_len]; exact HAL2.out.l8 i hi) (by rw [HM.out.1]; exact hml) HAL2.out.nd (by omega) (by show 0 ≤ _; omega) (by omega)
                rw [HNB.out.1, XA_none T 0 HAL2.out.l8 (by simp)] at hA
                dsimp only at hA
                go_wp2_with fail
                refine hA.mono ?_
                rintro e W7 ⟨mv, rfl, om, S7, h9⟩
                rw [Nat.zero_add] at h9
                have HJx := Hid.of (HJ.out.st h9)
                have HNx := Hid.of (And.intro (h9.nb.trans HNB.out.1) trivial)
                have HIx := Hid.of (h9.fr.own HAL2.out.io (int_not_own HJ.out.ok HAL2.out.io))
                have hNw := Now_walk W7 S7 HJx.out.ok
                rw [HNx.out.1, HJx.out.now, show (XA T []).now = T from rfl] at hNw
                have HK0 := Hid.of (show k0 ∉ ([] : List Nat) from fun h => by cases h)
                obtain ⟨ma, mc, rfl, _⟩ := Ow.sb om
                obtain ⟨js, hjs⟩ : ∃ js : List Nat, js = [] := ⟨_, rfl⟩
                rw [← hjs] at HJx HK0
                have HCx := Hid.of (show W7.cell? ⟨g, 0, none⟩ = some (.int .i64 (k0 : Int)) from by
                  obtain ⟨g', c', e', _, c0⟩ := IOwn.get (show IOwn W7 W3.heap.size (.slice (some ⟨g, 0, none⟩) j lc) (k0 :: rr) from HIx.out) (j := 0) (by simp) rfl
                  obtain rfl : g = g' := by
                    injection e' with e1
                    injection e1 with e1
                    injection e1
                  exact c0)
                clear h9 hA om HJ HNB HAL2 hjs
                dsimp only
                have c1 := HCx.out
                have HO7 := Hid.of (ow_one W7 77)
                have HU7 := Hid.of ((Up.refl W7).alloc (.cells #[.int .u8 ((77 : UInt8).toNat : Int)] 5))
                rw [show (((77 : UInt8).toNat : Int)) = (77 : Int) from rfl] at HO7 HU7
                go_wp2_with (first | (go_at_call 13; refine (num_walk _ _).mono ?_; rintro _ w9 ⟨rfl, h9⟩; obtain rfl := h9.symm; clear h9; dsimp only) | (go_at_call 16; refine hNw.mono ?_; rintro _ w9 ⟨rfl, h9⟩; obtain rfl := h9.symm; clear h9; dsimp only))
                generalize W7.alloc (.cells #[.int .u8 (77 : Int)] 5) = W8 at *
                obtain ⟨f1, f2, f3⟩ := XA_77 T hk08 HK0.out
                have hS := (HJx.out.up' HU7.out).send k0 (.slice (some ⟨W7.heap.size, 0, none⟩) 1 1) [77] (XA_get T _ hk08) (Ow.sb HO7.out) (fun g hg => row_tag HO7.out hg) (by simp) (by show T ≤ _; omega) (by omega)
                rw [HNx.out.1] at hS
                refine hS.mono ?_
                rintro e w9 ⟨rfl, S9, h9⟩
                have HJ9 := Hid.of ((HJx.out.up' HU7.out).st h9)
                have HN9 := Hid.of (And.intro (h9.nb.trans HNx.out.1) trivial)
                have HI9 := Hid.of (h9.fr.own (ow_up HIx.out HU7.out) (int_not_own (HJx.out.up' HU7.out).ok (ow_up HIx.out HU7.out)))
                have HF := Hid.of (And.intro f1 (And.intro f2 f3))
                have HC9 := Hid.of (show w9.cell? ⟨g, 0, none⟩ = some (.int .i64 (k0 : Int)) from by
                  obtain ⟨g', c', e', _, c0⟩ := IOwn.get (show IOwn w9 W3.heap.size (.slice (some ⟨g, 0, none⟩) j lc) (k0 :: rr) from HI9.out) (j := 0) (by simp) rfl
                  obtain rfl : g = g' := by
                    injection e' with e1
                    injection e1 with e1
                    injection e1
                  exact c0)
                clear f1 f2 f3 hS h9 c1 HJx HNx HIx HCx HO7 HU7 HK0
                obtain ⟨l9, hl9, _, hl9b⟩ := abs_get HJ9.out.ab HF.out.1
                have hWt := Waiting_yes w9 S9 k0 l9 HJ9.out.ok hl9
                rw [HN9.out.1, show l9.ms.length = 1 by have := congrArg List.length hl9b; simpa using this] at hWt
                clear hl9 hl9b
                generalize SendA (XA T js) k0 [77] = B at *
                have c1 := HC9.out
                dsimp only
                go_wp2_with fail
                refine hWt.mono ?_
                rintro e w8 ⟨rfl, h8⟩
                obtain rfl := h8.symm
                clear h8 hWt c1
                dsimp only
                go_wp2_with (go_at_call 13; refine (num_walk _ _).mono ?_; rintro _ w9 ⟨rfl, h9⟩; obtain rfl := h9.symm; clear h9; dsimp only)
                go_loopw [24, 25, 26] (fun v24 _ _ w2 => v24 = .int .i64 1 ∧ Hid (w2 = w9)) (fun _ _ _ _ => 0)
                case atStart => exact ⟨rfl, Hid.of rfl⟩
                case round =>
                  obtain ⟨rfl, hw2⟩ := hrel
                  obtain rfl := hw2.out
                  clear hw2
                  have hA := HJ9.out.any (.slice (some ⟨g, 0, none⟩) 1 lc) [k0] 0 (IOwn.one HI9.out) (by simp) (fun i hi => by
                    obtain rfl := List.mem_singleton.1 hi
                    exact (List.getElem?_eq_some_iff.1 HF.out.1).1) (by simp) (fun i => by rw [List.count_cons, List.count_nil]; split <;> omega) (by omega) (by rw [HF.out.2.1]; omega) (by omega)
                  rw [HN9.out.1, HF.out.2.2] at hA
                  dsimp only at hA
                  have hlc1 : (1 : Int) ≤ (lc : Int) := by omega
                  go_wp2_with fail
                  refine hA.mono ?_
                  rintro e w10 ⟨mv, rfl, om, S10, h9⟩
                  have HU10 := Hid.of (HJ9.out.st h9).up
                  have hC10 : w10.cell? ⟨g, 0, none⟩ = some (.int .i64 (k0 : Int)) := by
                    have HI10 := h9.fr.own HI9.out (int_not_own HJ9.out.ok HI9.out)
                    obtain ⟨g', c', e', _, c0⟩ := IOwn.get (show IOwn w10 W3.heap.size (.slice (some ⟨g, 0, none⟩) j lc) (k0 :: rr) from HI10) (j := 0) (by simp) rfl
                    obtain rfl : g = g' := by
                      injection e' with e1
                      injection e1 with e1
                      injection e1
                    exact c0
                  obtain ⟨g3, k3, rfl, hk3⟩ := ow_shape1 om
                  have x3 := (ow_cells om (i := 0) (by simp)).1
                  have y3 : (1 : Int) ≤ (k3 : Int) := by omega
                  simp only [List.getElem_cons_zero] at x3
                  clear h9 hA om
                  dsimp only
                  go_wp2_with (go_at_call 13; refine (num_walk _ _).mono ?_; rintro _ w9 ⟨rfl, h9⟩; obtain rfl := h9.symm; clear h9; dsimp only)
                  go_ret
                  exact ⟨rfl, HU10.out⟩
              | cons k r =>
                rw [hf] at HJ
                rw [show wnt (k :: r) = (k : Int) from rfl]
                have hkr := head_notin HAL2.out.nd (hbs bs) hf
                have hkz : (0 : Int) ≤ (k : Int) := by omega
                have HK0 := Hid.of (show k0 ∉ r from fun h => by
                  have hm : k0 ∈ (k0 :: rr).filter (hbs bs) := by rw [hf]; simp [h]
                  have hp := (List.mem_filter.1 hm).2
                  rw [List.filter_cons_of_pos hp] at hf
                  injection hf with h1 h2
                  subst h1
                  exact hkr h)
                have hk8 : k < 8 := HAL2.out.l8 k (by
                  have : k ∈ (k0 :: rr).filter (hbs bs) := by rw [hf]; simp
                  exact (List.mem_filter.1 this).1)
                have HXA := Hid.of (fun n => XA_any 0 n HAL2.out.l8 hf hkr)
                clear hf hkr
                go_wp2_with fail
                refine (below_walk wr z 30 (by omega) (by omega)).mono ?_
                rintro e w9 ⟨T0, rfl, hT0, h9⟩
                obtain rfl := h9.symm
                clear h9
                dsimp only
                have hA := HJ.out.any (.slice (some ⟨g, 0, none⟩) j lc) (k0 :: rr) T0 HAL2.out.io (by simp) (fun i hi => by rw [XA_len]; exact HAL2.out.l8 i hi) (by rw [HM.out.1]; exact hml) HAL2.out.nd (by omega) (by show 0 ≤ _; omega) (by omega)
                rw [HNB.out.1, HXA.out T0] at hA
                dsimp only at hA
                go_wp2_with fail
                refine hA.mono ?_
                rintro e W7 ⟨mv, rfl, om, S7, h9⟩
                have HJx := Hid.of (HJ.out.st h9)
                have HNx := Hid.of (And.intro (h9.nb.trans HNB.out.1) trivial)
                have HIx := Hid.of (h9.fr.own HAL2.out.io (int_not_own HJ.out.ok HAL2.out.io))
                have hNw := Now_walk W7 S7 HJx.out.ok
                rw [HNx.out.1, HJx.out.now, show (XA 0 r).now = 0 from rfl] at hNw
                obtain ⟨g2, k2, rfl, hk2⟩ := ow_shape1 om
                have x2 := (ow_cells om (i := 0) (by simp)).1
                have y2 : (1 : Int) ≤ (k2 : Int) := by omega
                simp only [List.getElem_cons_zero] at x2
                rw [show ((UInt8.ofNat k).toNat : Int) = (k : Int) by rw [UInt8.toNat_ofNat', Nat.mod_eq_of_lt (by omega)]] at x2
                have hbw : IntKind.i64.wrap (k : Int) = (k : Int) := by rw [IntKind.wrap_i64]; omega
                obtain ⟨js, hjs⟩ : ∃ js : List Nat, js = r := ⟨_, rfl⟩
                rw [← hjs] at HJx HK0
                obtain ⟨T, hT'⟩ : ∃ T : Nat, T = 0 := ⟨_, rfl⟩
                have hT : T < 30 := by omega
                have HCx := Hid.of (show W7.cell? ⟨g, 0, none⟩ = some (.int .i64 (k0 : Int)) from by
                  obtain ⟨g', c', e', _, c0⟩ := IOwn.get (show IOwn W7 W3.heap.size (.slice (some ⟨g, 0, none⟩) j lc) (k0 :: rr) from HIx.out) (j := 0) (by simp) rfl
                  obtain rfl : g = g' := by
                    injection e' with e1
                    injection e1 with e1
                    injection e1
                  exact c0)
                clear h9 hA om HJ HNB HAL2 hjs HXA
                dsimp only
                rw [← hT'] at HJx
                have c1 := HCx.out
                have HO7 := Hid.of (ow_one W7 77)
                have HU7 := Hid.of ((Up.refl W7).alloc (.cells #[.int .u8 ((77 : UInt8).toNat : Int)] 5))
                rw [show (((77 : UInt8).toNat : Int)) = (77 : Int) from rfl] at HO7 HU7
                go_wp2_with (first | (go_at_call 13; refine (num_walk _ _).mono ?_; rintro _ w9 ⟨rfl, h9⟩; obtain rfl := h9.symm; clear h9; dsimp only) | (go_at_call 16; refine hNw.mono ?_; rintro _ w9 ⟨rfl, h9⟩; obtain rfl := h9.symm; clear h9; dsimp only))
                generalize W7.alloc (.cells #[.int .u8 (77 : Int)] 5) = W8 at *
                obtain ⟨f1, f2, f3⟩ := XA_77 T hk08 HK0.out
                have hS := (HJx.out.up' HU7.out).send k0 (.slice (some ⟨W7.heap.size, 0, none⟩) 1 1) [77] (XA_get T _ hk08) (Ow.sb HO7.out) (fun g hg => row_tag HO7.out hg) (by simp) (by show T ≤ _; omega) (by omega)
                rw [HNx.out.1] at hS
                refine hS.mono ?_
                rintro e w9 ⟨rfl, S9, h9⟩
                have HJ9 := Hid.of ((HJx.out.up' HU7.out).st h9)
                have HN9 := Hid.of (And.intro (h9.nb.trans HNx.out.1) trivial)
                have HI9 := Hid.of (h9.fr.own (ow_up HIx.out HU7.out) (int_not_own (HJx.out.up' HU7.out).ok (ow_up HIx.out HU7.out)))
                have HF := Hid.of (And.intro f1 (And.intro f2 f3))
                have HC9 := Hid.of (show w9.cell? ⟨g, 0, none⟩ = some (.int .i64 (k0 : Int)) from by
                  obtain ⟨g', c', e', _, c0⟩ := IOwn.get (show IOwn w9 W3.heap.size (.slice (some ⟨g, 0, none⟩) j lc) (k0 :: rr) from HI9.out) (j := 0) (by simp) rfl
                  obtain rfl : g = g' := by
                    injection e' with e1
                    injection e1 with e1
                    injection e1
                  exact c0)
                clear f1 f2 f3 hS h9 c1 HJx HNx HIx HCx HO7 HU7 HK0
                obtain ⟨l9, hl9, _, hl9b⟩ := abs_get HJ9.out.ab HF.out.1
                have hWt := Waiting_yes w9 S9 k0 l9 HJ9.out.ok hl9
                rw [HN9.out.1, show l9.ms.length = 1 by have := congrArg List.length hl9b; simpa using this] at hWt
                clear hl9 hl9b
                generalize SendA (XA T js) k0 [77] = B at *
                have c1 := HC9.out
                dsimp only
                go_wp2_with fail
                refine hWt.mono ?_
                rintro e w8 ⟨rfl, h8⟩
                obtain rfl := h8.symm
                clear h8 hWt c1
                dsimp only
                go_wp2_with (go_at_call 13; refine (num_walk _ _).mono ?_; rintro _ w9 ⟨rfl, h9⟩; obtain rfl := h9.symm; clear h9; dsimp only)
                go_loopw [24, 25, 26] (fun v24 _ _ w2 => v24 = .int .i64 1 ∧ Hid (w2 = w9)) (fun _ _ _ _ => 0)
                case atStart => exact ⟨rfl, Hid.of rfl⟩
                case round =>
                  obtain ⟨rfl, hw2⟩ := hrel
                  obtain rfl := hw2.out
                  clear hw2
                  have hA := HJ9.out.any (.slice (some ⟨g, 0, none⟩) 1 lc) [k0] 0 (IOwn.one HI9.out) (by simp) (fun i hi => by
                    obtain rfl := List.mem_singleton.1 hi
                    exact (List.getElem?_eq_some_iff.1 HF.out.1).1) (by simp) (fun i => by rw [List.count_cons, List.count_nil]; split <;> omega) (by omega) (by rw [HF.out.2.1]; omega) (by omega)
                  rw [HN9.out.1, HF.out.2.2] at hA
                  dsimp only at hA
                  have hlc1 : (1 : Int) ≤ (lc : Int) := by omega
                  go_wp2_with fail
                  refine hA.mono ?_
                  rintro e w10 ⟨mv, rfl, om, S10, h9⟩
                  have HU10 := Hid.of (HJ9.out.st h9).up
                  have hC10 : w10.cell? ⟨g, 0, none⟩ = some (.int .i64 (k0 : Int)) := by
                    have HI10 := h9.fr.own HI9.out (int_not_own HJ9.out.ok HI9.out)
                    obtain ⟨g', c', e', _, c0⟩ := IOwn.get (show IOwn w10 W3.heap.size (.slice (some ⟨g, 0, none⟩) j lc) (k0 :: rr) from HI10) (j := 0) (by simp) rfl
                    obtain rfl : g = g' := by
                      injection e' with e1
                      injection e1 with e1
                      injection e1
                    exact c0
                  obtain ⟨g3, k3, rfl, hk3⟩ := ow_shape1 om
                  have x3 := (ow_cells om (i := 0) (by simp)).1
                  have y3 : (1 : Int) ≤ (k3 : Int) := by omega
                  simp only [List.getElem_cons_zero] at x3
                  clear h9 hA om
                  dsimp only
                  go_wp2_with (go_at_call 13; refine (num_walk _ _).mono ?_; rintro _ w9 ⟨rfl, h9⟩; obtain rfl := h9.symm; clear h9; dsimp only)
                  go_ret
                  exact ⟨rfl, HU10.out⟩
end Go.Proofs.Ytgfehlcindapmaa
