import Derived.Test.YtepakbghhnkcfaaDoorHt
namespace Go.Proofs.YtepakbghhnkcfaaDoor
open Go.RowKit Go.Shelf TextNum ModNum
theorem exec_cutSl {o : Oper} {ρ : Operand → Value} {x y : Operand} {w : World} {a : Option Addr} {n c k : Nat} (hk : k ≤ n) (hn : n ≤ c) (ho : o.op = .slice 29 x none (some y) none) (hx : ρ x = .slice a n c) (hy : ρ y = .int .i64 (k : Int)) (ha : a = none → c = 0) : (execOp ρ o).run Tryd.prog w = .ok (.value (.slice a k c)) w := by
  unfold execOp
  simp only [ho, hx]
  have h1 : (k : Int) ≤ (c : Int) := by omega
  cases a with
  | none =>
    obtain rfl := ha rfl
    obtain rfl : k = 0 := by omega
    go_simp
  | some p => go_simp
theorem nwS_cw (room M L : Nat) : CW (nwS room M L) := ⟨⟨NFit.nil _, (fun k l b e => by
    rw [List.take_nil] at e
    cases e), (fun k l l' b e => by
    rw [List.take_nil] at e
    cases e)⟩, rfl⟩
theorem cz_pos {cs : List Int} {k most : Nat} (h : k < cs.length) : cz cs k most = (cs[k] % ((most : Int) + 1)).toNat := dif_pos h
theorem cz_out {cs : List Int} {k most : Nat} (h : ¬ k < cs.length) : cz cs k most = 0 := dif_neg h
theorem si_cell {w : World} {a : Option Addr} {c : Nat} {cs : List Int} (h : SI w (.slice a cs.length c) cs) {i : Nat} (hi : i < cs.length) : ∃ b off, a = some ⟨b, off, none⟩ ∧ w.cell? ⟨b, off + i, none⟩ = some (.int .i64 cs[i]) := by
  obtain ⟨a', c', e, _, _, h3, h4⟩ := h
  injection e with e1 e2 e3
  subst e1
  cases a with
  | none => have := (h3 rfl).1; rw [this] at hi; cases hi
  | some ad =>
    obtain ⟨b, off, sp⟩ := ad
    obtain rfl : sp = none := (h4 _ rfl).1 (fun e => by rw [e] at hi; cases hi)
    refine ⟨b, off, rfl, ?_⟩
    have := (h4 _ rfl).2 i (.int .i64 cs[i]) (by simp [ci, hi])
    rw [Addr.add_lit] at this
    exact this
set_option maxRecDepth 100000 in
set_option maxHeartbeats 16000000 in
theorem prefix_walk (a : Option Addr) (ls : List (List UInt8)) (c : Nat) (vc : Value) (cs : List Int) (w : World) (hP : STs w a ls c) (hC : SI w vc cs) (hcl : cs.length ≤ 17592186044416) (hll : ls.length ≤ 4611686018427387904) (hG : ML w) (hV : 0 < w.heap.size) :
    Calls Tryd.prog 6 #[.slice a ls.length c, vc] w fun e w' => e = .returned (.bool true) ∧ Up w w' := by
  have HP := Hid.of hP
  have HC := Hid.of hC
  obtain ⟨ac, cc, rfl, hcc, _⟩ := hC
  have HNew := Hid.of (New_gen 1073741824 w.heap.size (by omega) w hG (Nat.le_refl _) hV)
  have HV := Hid.of hV
  have hcap := hP.cap
  clear hP hG hV
  go_enter Tryd.func6, Tryd.ntmps6
  go_wp2_with fail
  refine HNew.out.mono ?_
  rintro e w2 ⟨D, M, L, rfl, k2, l2, u2⟩
  have HJ2 := Hid.of (show PJ w w2 D (nwS 1073741824 M L) none 0 [] [] from ⟨k2, u2, l2, KR.nil _ _ _ _, ⟨rfl, rfl, rfl, rfl, rfl, rfl, rfl, rfl⟩, PF.nil, nwS_cw _ _ _, (fun d hd => by cases hd), Nat.zero_le _⟩)
  clear k2 l2 u2 HNew
  dsimp only
  have hpn : ∀ w', (binOp .eql 24 (.pointer (some ⟨D, 0, none⟩)) (.pointer none)).run Tryd.prog w' = .ok (.bool false) w' := fun w' => by kernel_rfl
  go_wp2
  go_loopw [7, 8] (fun v7 v8 wr => ∃ i : Nat, v8 = .int .i64 (i : Int) ∧ i ≤ ls.length ∧ ∃ a7 c7 n, v7 = .slice a7 n c7 ∧ Hid (∃ s xs K, PJ w wr D s a7 c7 xs K ∧ List.length K = n)) (fun _ v8 _ => ls.length - (intOf v8).toNat)
  case atStart => exact ⟨0, rfl, by omega, none, 0, 0, rfl, Hid.of ⟨_, _, _, HJ2.out, rfl⟩⟩
  case round =>
    obtain ⟨i, rfl, hi, a7, c7, n, rfl, hR⟩ := hrel
    obtain ⟨s, xs, K, hJ, hn⟩ := hR.out
    have HJ := Hid.of hJ
    have HN := Hid.of hn
    have hn100 : n ≤ 100 := by have := hJ.kl; omega
    clear hR hJ HJ2 hpn hn
    by_cases hlt : i < ls.length ∧ n < 100
    · obtain ⟨hlt, hlt2⟩ := hlt
      have hltz : (i : Int) < (ls.length : Int) := by omega
      have hlt2z : (n : Int) < 100 := by omega
      obtain ⟨b, off, u, rfl, k1, hsb⟩ := HP.out.cells i hlt
      have k2 := HJ.out.up.cell k1
      have HSh := Hid.of (short_walk u ls[i] wr (hsb.up HJ.out.up) (HP.out.len _ (List.getElem_mem hlt)))
      obtain ⟨ds, hds⟩ : ∃ ds, ls[i].take 1048576 = ds := ⟨_, rfl⟩
      have hdl : ds.length ≤ 1048576 := by rw [← hds, List.length_take]; omega
      rw [hds] at HSh
      clear hds k1 hsb
      go_wp2_with fail
      refine HSh.out.mono ?_
      rintro e w3 ⟨v3, rfl, o3, u3⟩
      obtain ⟨a3, c3, rfl⟩ := row_len o3
      have HO3 := Hid.of o3
      have HU3 := Hid.of u3
      clear o3 u3 HSh
      dsimp only
      by_cases h0 : ds = []
      · have h0z : ((ds.length : Int) == 0) = true := by rw [h0]; rfl
        go_wp2
        go_roundw
        all_goals first
          | exact ⟨i + 1, by go_num, by omega, a7, c7, n, rfl, Hid.of ⟨s, xs, K, HJ.out.upTo HU3.out, HN.out⟩⟩
          | (simp [intOf]; omega)
      have h0z : ((ds.length : Int) == 0) = false := by
        rw [beq_eq_false_iff_ne]
        intro e
        exact h0 (List.eq_nil_of_length_eq_zero (by omega))
      have HH0 := Hid.of h0
      clear h0
      go_wp2_with fail
      refine (letters_walk n (by omega) w3).mono ?_
      rintro e w4 ⟨rfl, u4⟩
      have HU4 := Hid.of (HU3.out.trans u4)
      have HU34 := Hid.of u4
      clear u4
      dsimp only
      have HCr := Hid.of (Create_gen ⟨(ltr n).toArray⟩ w4 (HJ.out.ok.up HU4.out) (ltr_nm n (by omega)) HJ.out.st.1 (by have := HJ.out.st; omega) (by have := HJ.out.st; omega) (by have := HN.out; omega))
      go_wp2_with fail
      refine HCr.out.mono ?_
      rintro e w5 ⟨rfl, F, bp, b2, vC, vLo, a5⟩
      have HA5 := Hid.of a5
      have HO5 := Hid.of (show Ow w5 wr.heap.size (.slice a3 ds.length c3) ds from a5.2.2.own (ow_up HO3.out HU34.out) (fun g hg ho => by
        have h1 := HJ.out.ok.lt ho
        have h2 := (World.ownsRow.lt HO3.out g hg).1
        omega))
      have HCo := Hid.of (copied_walk (.slice a3 ds.length c3) ds w5 HO5.out.sb (by omega))
      clear a5 HCr
      dsimp only
      go_wp2_with fail
      refine HCo.out.mono ?_
      rintro e w6 ⟨v6, rfl, o6, u6⟩
      have HU6 := Hid.of u6
      have HO6 := Hid.of o6
      obtain ⟨s5, hs5⟩ : ∃ s5, crS (acS s) ⟨(ltr n).toArray⟩ F bp b2 vC vLo = s5 := ⟨_, rfl⟩
      have HS5 := Hid.of hs5
      have hw0 : wrF s5.room (usd s5.nf) (fnew F).nb.length 0 ds.length = 0 := by
        have h1 : s5.room = 1073741824 := by rw [← hs5]; exact HJ.out.st.2.2.1
        have h2 : usd s5.nf ≤ K.length * 1048576 := by
          rw [← hs5]
          show usd (drp s.nf (ltr n) ++ [(ltr n, fnew F)]) ≤ _
          rw [← HN.out, drp_no (HJ.out.pf.names (by have := HN.out; omega)), usd_append]
          exact HJ.out.pf.usd (fun d hd => (HJ.out.sz d hd).2)
        have h3 := HN.out
        unfold wrF gro
        rw [h1, if_neg (by omega), if_neg]
        rintro ⟨h4, h5⟩
        split at h5 <;> omega
      have HW0 := Hid.of hw0
      have HWr := Hid.of (Write_gen ⟨(ltr n).toArray⟩ (fnew F) 0 v6 ds w6 (show DOk w6 w.heap.size D (4 * K.length + 2) s5 by rw [← hs5]; exact HA5.out.1.up u6) (by
          rw [← hs5]
          exact List.mem_append_right _ (List.mem_singleton.2 rfl)) o6.sb (fun e => by
          have h1 := (World.ownsRow.lt o6 D e).1
          have h2 := lt_of_at HA5.out.1.disk
          omega) hdl (by rw [← hs5]; exact HJ.out.st.1) (by rw [← hs5]; show s.unt - 1 ≤ _; have := HJ.out.st; omega) (by rw [← hs5]; show s.unt - 1 ≠ 1; have := HJ.out.st; omega) (by have := HN.out; omega))
      obtain ⟨a6, c6, rfl⟩ := row_len o6
      rw [hw0] at HWr
      clear o6 u6 hs5 hw0 HCo
      dsimp only
      go_wp2_with fail
      refine HWr.out.mono ?_
      rintro e w7 ⟨rfl, s7, a7', hs7⟩
      have hq5 := HA5.out
      have hq7 := a7'
      have hq9 := hs7.2 HW0.out HH0.out
      rw [← HS5.out] at hq7 hq9
      rw [← HN.out] at hq5 hq7 hq9
      obtain ⟨m1, m2, m3, m4, m5, m6, m7⟩ := PJ.made (ds := ds) (HJ.out.upTo HU4.out) (by have := HN.out; omega) hq5 HU6.out hq7 hq9
      clear hq5 hq7 hq9
      have HM := Hid.of (And.intro m1 (And.intro m2 (And.intro m3 (And.intro m4 (And.intro m5 (And.intro m6 m7))))))
      have HO7 := Hid.of (show Ow w7 w.heap.size (.slice a3 ds.length c3) ds ∧ ∀ k, (Value.slice a3 ds.length c3).ownBlock = some k → ¬ own D s7 k from by
        have hlt : ∀ k, (Value.slice a3 ds.length c3).ownBlock = some k → ¬ own D s5 k := fun k hk ho => by
          have h1 := (World.ownsRow.lt HO3.out k hk)
          rw [← HS5.out] at ho
          rcases HA5.out.2.1 k ho with h2 | h2
          · have := HJ.out.ok.lt h2
            omega
          · have := HU34.out.size
            omega
        refine ⟨ow_base (a7'.2.2.own (ow_up HO5.out HU6.out) hlt) (HJ.out.up.size), fun k hk ho => ?_⟩
        rcases a7'.2.1 k ho with h2 | h2
        · exact hlt k hk h2
        · have := (World.ownsRow.lt (ow_up HO5.out HU6.out) k hk).2
          omega)
      clear m1 m2 m3 m4 m5 m6 m7 a7' hs7 HWr HA5 HO5 HO6 HW0
      dsimp only
      go_wp2_with (with_reducible show wpList _ _ _ ({ dst := _, op := Op.call { callee := Callee.builtin Builtin.append, args := _, argTypes := _ }, type := _, pos := _, after := _, guard := _ } :: _) _ _; refine Shut.out ?_)
      show wpList _ _ _ _ _ _
      refine wpList_appK (W := w) (w := w7) (T := 4 * (K.length + 1)) (s := s7) rfl _ _ rfl a7 c7 (.slice a3 ds.length c3) ds xs K rfl rfl HM.out.2.2.2.1 HN.out HO7.out.1 HO7.out.2 HM.out.1 HM.out.2.1 (by exact HV.out) (Nat.le_refl _) HM.out.2.1.size (by omega) ?_
      intro ax2 cx2 w8 r8 d8 u8
      have HJ8 := Hid.of (show PJ w w8 D s7 ax2 cx2 (xs ++ [.slice a3 ds.length c3]) (K ++ [ds]) from ⟨by rw [List.length_append]; exact d8, u8, HM.out.2.2.1, r8, by rw [List.length_append]; exact HM.out.2.2.2.2.1, HM.out.2.2.2.2.2.1, HM.out.2.2.2.2.2.2, (fun d hd => by
        rcases List.mem_append.1 hd with h1 | h1
        · exact HJ.out.sz d h1
        · obtain rfl := List.mem_singleton.1 h1
          exact ⟨HH0.out, hdl⟩), by rw [List.length_append, HN.out]; show n + 1 ≤ 100; omega⟩)
      clear r8 d8 u8 HM HO7
      simp only [Act.put, List.setIfInBounds_toArray, List.set_cons_zero, List.set_cons_succ]
      go_wp2
      go_roundw
      all_goals first
        | exact ⟨i + 1, by go_num, by omega, ax2, cx2, n + 1, rfl, Hid.of ⟨s7, _, _, HJ8.out, by rw [List.length_append, HN.out]; rfl⟩⟩
        | (simp [intOf]; omega)
    · by_cases hle : i < ls.length
      · have hltz : (i : Int) < (ls.length : Int) := by omega
        have hlt2z : ¬ (n : Int) < 100 := by omega
        clear hlt
        go_wp2_with fail
        refine (Pending_gen wr HJ.out.ok).mono ?_
        rintro e w3 ⟨rfl, u3⟩
        rw [HJ.out.pend, HN.out, show ((2 * n : Nat) : Int) = 2 * (n : Int) by omega]
        have HU3 := Hid.of u3
        clear u3
        dsimp only
        go_wp2_with fail
        refine (Acts_gen w3 (HJ.out.ok.up HU3.out)).mono ?_
        rintro e w4 ⟨rfl, h9⟩
        obtain rfl := h9.symm
        clear h9
        rw [HJ.out.st.2.2.2.2.2.2.1, HN.out, show ((2 * n : Nat) : Int) = 2 * (n : Int) by omega]
        dsimp only
        have HAf := Hid.of (after_gen w.heap.size D (4 * K.length) 1048576 s (.slice ac cs.length cc) cs w3 (HJ.out.ok.up HU3.out) (HC.out.up (HJ.out.up.trans HU3.out)) HJ.out.cf (by have := HJ.out.st; have := HN.out; omega) hcl (by have := HN.out; omega))
        go_wp2_with fail
        refine HAf.out.mono ?_
        rintro e w9 ⟨a9, fs, c9, gs, ws, rfl, o9, f9, k9, lf, e9⟩
        have HFo := Hid.of (HJ.out.found lf e9)
        have HFs := Hid.of o9.fsl
        have hU9 : Up w w9 := up_disk (HJ.out.up.trans HU3.out) HJ.out.lo (f9.weak (fun g hg => .inl hg))
        have HUw := Hid.of hU9
        have HC9 := Hid.of (HC.out.up hU9)
        have hfD : ∀ {B e m v q xs}, (∀ k, v.ownBlock = some k → ¬ own D s k) → w3.ownsRow B e m v q xs → w9.ownsRow B e m v q xs := fun hk h => f9.own h (fun g hg e => hk g hg (.inl e))
        have HK9 := Hid.of (show w9.ownsRow w.heap.size 29 1 (.slice a7 n c7) n xs ∧ ∀ i (h : i < K.length) (h' : i < xs.length), Ow w9 w.heap.size xs[i] K[i] from ⟨by
          have h1 := hfD HJ.out.kr.nr (ow_up HJ.out.kr.row HU3.out)
          rw [HN.out] at h1
          exact h1, fun i h h' => hfD (HJ.out.kr.ne _ (List.getElem_mem h')) (ow_up (HJ.out.kr.el i h h') HU3.out)⟩)
        have hcf := (HFs.out).cap
        clear o9 f9 k9 lf e9 HAf hU9 hfD
        dsimp only
        by_cases hc0 : 0 < cs.length
        · have hc0z : (0 : Int) < (cs.length : Int) := by omega
          obtain ⟨bc0, oc0, rfl, q4⟩ := si_cell HC9.out hc0
          rw [Nat.add_zero] at q4
          have hfl : (cs[0] % ((n : Int) + 1)).toNat = fs.length := by rw [HFo.out.1, cz_pos hc0, HN.out]
          have HFL := Hid.of hfl
          obtain ⟨x0, hx0⟩ : ∃ x0, cs[0] = x0 := ⟨_, rfl⟩
          rw [hx0] at q4 HFL
          clear hx0 hfl
          go_wp2_with fail
          refine (within_gen x0 n (by omega) _).mono ?_
          rintro e w4 ⟨rfl, h9⟩
          obtain rfl := h9.symm
          clear h9
          rw [HFL.out]
          clear HFL q4
          dsimp only
          go_wp2
          go_loopw [15] (fun v15 wr => ∃ j : Nat, v15 = .int .i64 (j : Int) ∧ j ≤ fs.length ∧ Hid (Up w9 wr)) (fun v15 _ => fs.length - (intOf v15).toNat)
          case atStart => exact ⟨0, rfl, by omega, Hid.of (Up.refl _)⟩
          case round =>
            obtain ⟨j, rfl, hj, hU⟩ := hrel
            have HU := Hid.of hU.out
            clear hU
            by_cases hjf : j < fs.length
            · have hjz : (j : Int) < (fs.length : Int) := by omega
              have hjk : j < K.length := by have := cz_le cs 0 K.length; have := HFo.out.1; omega
              have hjn : (j : Int) < (n : Int) := by have := HN.out; omega
              have hjn0 : j < n := by omega
              have hj100 : j ≤ 100 := by omega
              have hj0 : ¬ (j : Int) + 1 < 0 := by omega
              obtain ⟨b9, o9, rfl, q1, q2⟩ := HFs.out.cells j hjf
              obtain ⟨g7, rfl, hnc7, hx7, q3⟩ := own_get (j := j) HK9.out.1 hjn0
              have hnc7z : (n : Int) ≤ (c7 : Int) := by omega
              have hO := HK9.out.2 j hjk hx7
              have HF1 := Hid.of (HU.out.cell q1)
              have HF2 := Hid.of (HU.out.cell q2)
              have HKx := Hid.of (HU.out.cell q3)
              have HSb1 := Hid.of ((HFs.out.sb _ (List.getElem_mem hjf)).up HU.out)
              have HSb2 := Hid.of (Ow.sb (ow_up hO HU.out))
              have hnm := (HFo.out.2 j hjf hjk).1
              have hdat := (HFo.out.2 j hjf hjk).2
              have hkl := (HJ.out.sz _ (List.getElem_mem hjk)).2
              rw [hnm] at HF1
              rw [hdat] at HSb1
              obtain ⟨kj, hkj⟩ : ∃ kj, K[j] = kj := ⟨_, rfl⟩
              rw [hkj] at HSb1 HSb2 hkl hO
              obtain ⟨xj, hxj⟩ : ∃ xj, xs[j] = xj := ⟨_, rfl⟩
              rw [hxj] at HKx HSb2 hO
              obtain ⟨gv, hgv⟩ : ∃ gv, (fs[j]).v = gv := ⟨_, rfl⟩
              rw [hgv] at HF2 HSb1
              obtain ⟨ak, ck, rfl⟩ := row_len hO
              obtain ⟨lg, hlgd⟩ : ∃ lg, cz cs (j + 1) kj.length = lg := ⟨_, rfl⟩
              have hlg : lg ≤ kj.length := by rw [← hlgd]; exact cz_le _ _ _
              have hck : kj.length ≤ ck := by
                obtain ⟨_, _, e, h1, _⟩ := HSb2.out
                injection e with _ _ e3
                omega
              have hak : ak = none → ck = 0 := fun e => by
                obtain ⟨_, _, e1, _, _, h3, _⟩ := HSb2.out
                injection e1 with e2 _ e3
                rw [e3]
                exact (h3 (by rw [← e2]; exact e)).2
              replace HSb2 := Hid.of (HSb2.out.take lg hlg)
              rw [hlgd] at HSb1
              obtain ⟨kt, hkt⟩ : ∃ kt, kj.take lg = kt := ⟨_, rfl⟩
              rw [hkt] at HSb1 HSb2
              clear q1 q2 q3 hO hnm hdat hkj hxj hgv hkt
              by_cases hc1 : j + 1 < cs.length
              · have hc1z : (j : Int) + 1 < (cs.length : Int) := by omega
                obtain ⟨bc, oc, hbo, q4⟩ := si_cell HC9.out hc1
                simp only [Option.some.injEq, Addr.mk.injEq, and_true] at hbo
                obtain ⟨rfl, rfl⟩ := hbo
                have HKc := Hid.of (HU.out.cell q4)
                obtain ⟨xc, hxc⟩ : ∃ xc, cs[j + 1] = xc := ⟨_, rfl⟩
                rw [hxc] at HKc
                have hlgx : (xc % ((kj.length : Int) + 1)).toNat = lg := by rw [← hlgd, cz_pos hc1, hxc]
                have HLX := Hid.of hlgx
                clear q4 hxc hlgd hlgx
                go_wp2
                refine wp_region_held_drew (S := fun w2 => Up wr w2) (by kernel_rfl) (Up.refl _).drew (fun hS => ?_)
                refine wpAnyH_take (i := 0) (oi := { dst := some 111, op := Go.Op.move (Go.Operand.tmp 1), type := 42, pos := "outright.go:196", after := #[], guard := none }) (v := .slice (some ⟨bc0, oc0, none⟩) cs.length cc) rfl (by kernel_rfl) (by kernel_rfl) (by kernel_rfl) (fun _ _ _ h => h) (Or.inl ⟨by kernel_rfl, ?_⟩) hS ?_
                · intro w5 hSw
                  clear hSw hS
                  go_simp
                simp only [Act.put, List.setIfInBounds_toArray, List.set_cons_zero, List.set_cons_succ]
                refine wpAnyH_take (i := 1) (oi := { dst := some 112, op := Go.Op.move (Go.Operand.tmp 15), type := 3, pos := "outright.go:196", after := #[], guard := none }) (v := .int .i64 (j : Int)) rfl (by kernel_rfl) (by kernel_rfl) (by kernel_rfl) (fun _ _ _ h => h) (Or.inl ⟨by kernel_rfl, ?_⟩) hS ?_
                · intro w5 hSw
                  clear hSw hS
                  go_simp
                simp only [Act.put, List.setIfInBounds_toArray, List.set_cons_zero, List.set_cons_succ]
                refine wpAnyH_take (i := 2) (oi := { dst := some 113, op := Go.Op.binOp Go.BinOp.add 3 (Go.Operand.tmp 112) (Go.Operand.const (Go.Value.int Go.IntKind.i64 1)) 3, type := 3, pos := "outright.go:196", after := #[{ on := 1, ground := Go.Ground.data }], guard := none }) (v := .int .i64 ((j : Int) + 1)) rfl (by kernel_rfl) (by kernel_rfl) (by kernel_rfl) (fun _ _ _ h => h) (Or.inl ⟨by kernel_rfl, ?_⟩) hS ?_
                · intro w5 hSw
                  clear hSw hS
                  (go_simp; rw [IntKind.wrap_i64]; omega)
                simp only [Act.put, List.setIfInBounds_toArray, List.set_cons_zero, List.set_cons_succ]
                refine wpAnyH_take (i := 3) (oi := { dst := some 114, op := Go.Op.indexAddr 42 (Go.Operand.tmp 111) (Go.Operand.tmp 113), type := 0, pos := "outright.go:196", after := #[{ on := 0, ground := Go.Ground.data }, { on := 2, ground := Go.Ground.data }], guard := none }) (v := .pointer (some ⟨bc0, oc0 + (j + 1), none⟩)) rfl (by kernel_rfl) (by kernel_rfl) (by kernel_rfl) (fun _ _ _ h => h) (Or.inl ⟨by kernel_rfl, ?_⟩) hS ?_
                · intro w5 hSw
                  clear hSw hS
                  go_simp
                simp only [Act.put, List.setIfInBounds_toArray, List.set_cons_zero, List.set_cons_succ]
                refine wpAnyH_take (i := 4) (oi := { dst := some 115, op := Go.Op.load 3 (Go.Operand.tmp 114), type := 3, pos := "outright.go:196", after := #[{ on := 3, ground := Go.Ground.data }], guard := none }) (v := .int .i64 xc) rfl (by kernel_rfl) (by kernel_rfl) (by kernel_rfl) (fun _ _ _ h => h) (Or.inl ⟨by kernel_rfl, ?_⟩) hS ?_
                · intro w5 hSw
                  have h0 := hSw.cell HKc.out
                  clear hSw hS
                  go_simp
                simp only [Act.put, List.setIfInBounds_toArray, List.set_cons_zero, List.set_cons_succ]
                refine wpAnyH_take (i := 5) (oi := { dst := some 116, op := Go.Op.move (Go.Operand.tmp 7), type := 54, pos := "outright.go:196", after := #[], guard := none }) (v := .slice (some ⟨g7, 0, none⟩) n c7) rfl (by kernel_rfl) (by kernel_rfl) (by kernel_rfl) (fun _ _ _ h => h) (Or.inl ⟨by kernel_rfl, ?_⟩) hS ?_
                · intro w5 hSw
                  clear hSw hS
                  go_simp
                simp only [Act.put, List.setIfInBounds_toArray, List.set_cons_zero, List.set_cons_succ]
                refine wpAnyH_take (i := 6) (oi := { dst := some 117, op := Go.Op.move (Go.Operand.tmp 15), type := 3, pos := "outright.go:196", after := #[], guard := none }) (v := .int .i64 (j : Int)) rfl (by kernel_rfl) (by kernel_rfl) (by kernel_rfl) (fun _ _ _ h => h) (Or.inl ⟨by kernel_rfl, ?_⟩) hS ?_
                · intro w5 hSw
                  clear hSw hS
                  go_simp
                simp only [Act.put, List.setIfInBounds_toArray, List.set_cons_zero, List.set_cons_succ]
                refine wpAnyH_take (i := 7) (oi := { dst := some 118, op := Go.Op.indexAddr 54 (Go.Operand.tmp 116) (Go.Operand.tmp 117), type := 0, pos := "outright.go:196", after := #[{ on := 5, ground := Go.Ground.data }, { on := 6, ground := Go.Ground.data }], guard := none }) (v := .pointer (some ⟨g7, j, none⟩)) rfl (by kernel_rfl) (by kernel_rfl) (by kernel_rfl) (fun _ _ _ h => h) (Or.inl ⟨by kernel_rfl, ?_⟩) hS ?_
                · intro w5 hSw
                  clear hSw hS
                  go_simp
                simp only [Act.put, List.setIfInBounds_toArray, List.set_cons_zero, List.set_cons_succ]
                refine wpAnyH_take (i := 8) (oi := { dst := some 119, op := Go.Op.load 29 (Go.Operand.tmp 118), type := 29, pos := "outright.go:196", after := #[{ on := 7, ground := Go.Ground.data }], guard := none }) (v := .slice ak kj.length ck) rfl (by kernel_rfl) (by kernel_rfl) (by kernel_rfl) (fun _ _ _ h => h) (Or.inl ⟨by kernel_rfl, ?_⟩) hS ?_
                · intro w5 hSw
                  have h0 := hSw.cell HKx.out
                  clear hSw hS
                  go_simp
                simp only [Act.put, List.setIfInBounds_toArray, List.set_cons_zero, List.set_cons_succ]
                refine wpAnyH_take (i := 9) (oi := { dst := some 120, op := Go.Op.call { callee := Go.Callee.builtin Go.Builtin.len, args := #[Go.Operand.tmp 119], argTypes := #[29] }, type := 3, pos := "outright.go:196", after := #[{ on := 8, ground := Go.Ground.data }], guard := none }) (v := .int .i64 (kj.length : Int)) rfl (by kernel_rfl) (by kernel_rfl) (by kernel_rfl) (fun _ _ _ h => h) (Or.inl ⟨by kernel_rfl, ?_⟩) hS ?_
                · intro w5 hSw
                  clear hSw hS
                  go_simp
                simp only [Act.put, List.setIfInBounds_toArray, List.set_cons_zero, List.set_cons_succ]
                refine wpAnyH_ready (rs := [10]) (by kernel_rfl) (by simp) ?_
                refine AllReadyH.cons (o := { dst := some 121, op := Go.Op.call { callee := Go.Callee.value (Go.Operand.func 7), args := #[Go.Operand.tmp 115, Go.Operand.const (Go.Value.int Go.IntKind.i64 0), Go.Operand.tmp 120], argTypes := #[3, 3, 3] }, type := 3, pos := "outright.go:196", after := #[{ on := 4, ground := Go.Ground.data }, { on := 9, ground := Go.Ground.data }], guard := none }) rfl (fun K hK => ?_) AllReadyH.nil
                rw [if_pos (by kernel_rfl)]
                go_simp
                refine (within_gen xc kj.length (by omega) _).mono ?_
                rintro e w5 ⟨rfl, h9⟩
                obtain rfl := h9.symm
                clear h9
                dsimp only
                refine hK.out _ _ hS (fun hS => ?_)
                clear hK K
                refine wpAnyH_take (i := 11) (oi := { dst := some 16, op := Go.Op.assign (Go.Operand.tmp 121), type := 3, pos := "outright.go:196", after := #[{ on := 10, ground := Go.Ground.data }, { on := 10, ground := Go.Ground.chain }, { on := 0, ground := Go.Ground.phase }, { on := 1, ground := Go.Ground.phase }, { on := 2, ground := Go.Ground.phase }, { on := 3, ground := Go.Ground.phase }, { on := 4, ground := Go.Ground.phase }, { on := 5, ground := Go.Ground.phase }, { on := 6, ground := Go.Ground.phase }, { on := 7, ground := Go.Ground.phase }, { on := 8, ground := Go.Ground.phase }, { on := 9, ground := Go.Ground.phase }, { on := 10, ground := Go.Ground.phase }], guard := none }) (v := .int .i64 (((xc % ((kj.length : Int) + 1)).toNat : Nat) : Int)) rfl (by kernel_rfl) (by kernel_rfl) (by kernel_rfl) (fun _ _ _ h => h) (Or.inl ⟨by kernel_rfl, ?_⟩) hS ?_
                · intro w5 hSw
                  clear hSw hS
                  go_simp
                simp only [Act.put, List.setIfInBounds_toArray, List.set_cons_zero, List.set_cons_succ]
                have HSZ := Hid.of hS
                clear hS
                refine wpAnyH_done (by kernel_rfl) ?_ _
                rw [HLX.out]
                have HSW := HSZ
                clear HSZ HLX HKc
                go_wp2
                refine wp_region_held_drew (S := fun w2 => Up wr w2) (by kernel_rfl) HSW.out.drew (fun hS => ?_)
                refine wpAnyH_take (i := 0) (oi := { dst := some 122, op := Go.Op.move (Go.Operand.tmp 12), type := 52, pos := "outright.go:198", after := #[], guard := none }) (v := .slice (some ⟨b9, o9, none⟩) fs.length c9) rfl (by kernel_rfl) (by kernel_rfl) (by kernel_rfl) (fun _ _ _ h => h) (Or.inl ⟨by kernel_rfl, ?_⟩) hS ?_
                · intro w5 hSw
                  clear hSw hS
                  go_simp
                simp only [Act.put, List.setIfInBounds_toArray, List.set_cons_zero, List.set_cons_succ]
                refine wpAnyH_take (i := 1) (oi := { dst := some 123, op := Go.Op.move (Go.Operand.tmp 15), type := 3, pos := "outright.go:198", after := #[], guard := none }) (v := .int .i64 (j : Int)) rfl (by kernel_rfl) (by kernel_rfl) (by kernel_rfl) (fun _ _ _ h => h) (Or.inl ⟨by kernel_rfl, ?_⟩) hS ?_
                · intro w5 hSw
                  clear hSw hS
                  go_simp
                simp only [Act.put, List.setIfInBounds_toArray, List.set_cons_zero, List.set_cons_succ]
                refine wpAnyH_take (i := 2) (oi := { dst := some 124, op := Go.Op.indexAddr 52 (Go.Operand.tmp 122) (Go.Operand.tmp 123), type := 0, pos := "outright.go:198", after := #[{ on := 0, ground := Go.Ground.data }, { on := 1, ground := Go.Ground.data }], guard := none }) (v := .pointer (some ⟨b9, o9 + j * 2, none⟩)) rfl (by kernel_rfl) (by kernel_rfl) (by kernel_rfl) (fun _ _ _ h => h) (Or.inl ⟨by kernel_rfl, ?_⟩) hS ?_
                · intro w5 hSw
                  clear hSw hS
                  exact exec_idxFile j hjf rfl rfl rfl
                simp only [Act.put, List.setIfInBounds_toArray, List.set_cons_zero, List.set_cons_succ]
                refine wpAnyH_take (i := 3) (oi := { dst := some 125, op := Go.Op.fieldAddr 51 (Go.Operand.tmp 124) 0, type := 0, pos := "outright.go:198", after := #[{ on := 2, ground := Go.Ground.data }], guard := none }) (v := .pointer (some ⟨b9, o9 + j * 2, none⟩)) rfl (by kernel_rfl) (by kernel_rfl) (by kernel_rfl) (fun _ _ _ h => h) (Or.inl ⟨by kernel_rfl, ?_⟩) hS ?_
                · intro w5 hSw
                  clear hSw hS
                  go_simp
                simp only [Act.put, List.setIfInBounds_toArray, List.set_cons_zero, List.set_cons_succ]
                refine wpAnyH_take (i := 4) (oi := { dst := some 126, op := Go.Op.load 9 (Go.Operand.tmp 125), type := 9, pos := "outright.go:198", after := #[{ on := 3, ground := Go.Ground.data }], guard := none }) (v := .string ⟨(ltr j).toArray⟩) rfl (by kernel_rfl) (by kernel_rfl) (by kernel_rfl) (fun _ _ _ h => h) (Or.inl ⟨by kernel_rfl, ?_⟩) hS ?_
                · intro w5 hSw
                  have h0 := hSw.cell HF1.out
                  clear hSw hS
                  go_simp
                simp only [Act.put, List.setIfInBounds_toArray, List.set_cons_zero, List.set_cons_succ]
                refine wpAnyH_take (i := 5) (oi := { dst := some 127, op := Go.Op.move (Go.Operand.tmp 15), type := 3, pos := "outright.go:198", after := #[], guard := none }) (v := .int .i64 (j : Int)) rfl (by kernel_rfl) (by kernel_rfl) (by kernel_rfl) (fun _ _ _ h => h) (Or.inl ⟨by kernel_rfl, ?_⟩) hS ?_
                · intro w5 hSw
                  clear hSw hS
                  go_simp
                simp only [Act.put, List.setIfInBounds_toArray, List.set_cons_zero, List.set_cons_succ]
                refine wpAnyH_ready (rs := [6]) (by kernel_rfl) (by simp) ?_
                refine AllReadyH.cons (o := { dst := some 128, op := Go.Op.call { callee := Go.Callee.value (Go.Operand.func 16), args := #[Go.Operand.tmp 127], argTypes := #[3] }, type := 9, pos := "outright.go:198", after := #[{ on := 5, ground := Go.Ground.data }], guard := none }) rfl (fun K hK => ?_) AllReadyH.nil
                rw [if_pos (by kernel_rfl)]
                go_simp
                refine (letters_walk j (by omega) _).mono ?_
                rintro e w5 ⟨rfl, u5⟩
                dsimp only
                refine hK.out _ _ (hS.trans u5) (fun hS => ?_)
                clear hK K u5
                refine wpAnyH_take (i := 7) (oi := { dst := some 129, op := Go.Op.binOp Go.BinOp.neq 9 (Go.Operand.tmp 126) (Go.Operand.tmp 128) 9, type := 4, pos := "outright.go:198", after := #[{ on := 4, ground := Go.Ground.data }, { on := 6, ground := Go.Ground.data }], guard := none }) (v := .bool false) rfl (by kernel_rfl) (by kernel_rfl) (by kernel_rfl) (fun _ _ _ h => h) (Or.inl ⟨by kernel_rfl, ?_⟩) hS ?_
                · intro w5 hSw
                  clear hSw hS
                  go_simp
                simp only [Act.put, List.setIfInBounds_toArray, List.set_cons_zero, List.set_cons_succ]
                refine wpAnyH_take (i := 8) (oi := { dst := some 130, op := Go.Op.move (Go.Operand.tmp 129), type := 4, pos := "outright.go:198", after := #[{ on := 7, ground := Go.Ground.data }, { on := 6, ground := Go.Ground.chain }], guard := none }) (v := .bool false) rfl (by kernel_rfl) (by kernel_rfl) (by kernel_rfl) (fun _ _ _ h => h) (Or.inl ⟨by kernel_rfl, ?_⟩) hS ?_
                · intro w5 hSw
                  clear hSw hS
                  go_simp
                simp only [Act.put, List.setIfInBounds_toArray, List.set_cons_zero, List.set_cons_succ]
                refine wpAnyH_take (i := 9) (oi := { dst := some 131, op := Go.Op.move (Go.Operand.tmp 12), type := 52, pos := "outright.go:198", after := #[{ on := 8, ground := Go.Ground.guard }], guard := some (8, false) }) (v := .slice (some ⟨b9, o9, none⟩) fs.length c9) rfl (by kernel_rfl) (by kernel_rfl) (by kernel_rfl) (fun _ _ _ h => h) (Or.inl ⟨by kernel_rfl, ?_⟩) hS ?_
                · intro w5 hSw
                  clear hSw hS
                  go_simp
                simp only [Act.put, List.setIfInBounds_toArray, List.set_cons_zero, List.set_cons_succ]
                refine wpAnyH_take (i := 10) (oi := { dst := some 132, op := Go.Op.move (Go.Operand.tmp 15), type := 3, pos := "outright.go:198", after := #[{ on := 8, ground := Go.Ground.guard }], guard := some (8, false) }) (v := .int .i64 (j : Int)) rfl (by kernel_rfl) (by kernel_rfl) (by kernel_rfl) (fun _ _ _ h => h) (Or.inl ⟨by kernel_rfl, ?_⟩) hS ?_
                · intro w5 hSw
                  clear hSw hS
                  go_simp
                simp only [Act.put, List.setIfInBounds_toArray, List.set_cons_zero, List.set_cons_succ]
                refine wpAnyH_take (i := 11) (oi := { dst := some 133, op := Go.Op.indexAddr 52 (Go.Operand.tmp 131) (Go.Operand.tmp 132), type := 0, pos := "outright.go:198", after := #[{ on := 9, ground := Go.Ground.data }, { on := 10, ground := Go.Ground.data }, { on := 8, ground := Go.Ground.guard }], guard := some (8, false) }) (v := .pointer (some ⟨b9, o9 + j * 2, none⟩)) rfl (by kernel_rfl) (by kernel_rfl) (by kernel_rfl) (fun _ _ _ h => h) (Or.inl ⟨by kernel_rfl, ?_⟩) hS ?_
                · intro w5 hSw
                  clear hSw hS
                  exact exec_idxFile j hjf rfl rfl rfl
                simp only [Act.put, List.setIfInBounds_toArray, List.set_cons_zero, List.set_cons_succ]
                refine wpAnyH_take (i := 12) (oi := { dst := some 134, op := Go.Op.fieldAddr 51 (Go.Operand.tmp 133) 1, type := 0, pos := "outright.go:198", after := #[{ on := 11, ground := Go.Ground.data }, { on := 8, ground := Go.Ground.guard }], guard := some (8, false) }) (v := .pointer (some ⟨b9, o9 + j * 2 + 1, none⟩)) rfl (by kernel_rfl) (by kernel_rfl) (by kernel_rfl) (fun _ _ _ h => h) (Or.inl ⟨by kernel_rfl, ?_⟩) hS ?_
                · intro w5 hSw
                  clear hSw hS
                  go_simp
                simp only [Act.put, List.setIfInBounds_toArray, List.set_cons_zero, List.set_cons_succ]
                refine wpAnyH_take (i := 13) (oi := { dst := some 135, op := Go.Op.load 29 (Go.Operand.tmp 134), type := 29, pos := "outright.go:198", after := #[{ on := 12, ground := Go.Ground.data }, { on := 8, ground := Go.Ground.guard }], guard := some (8, false) }) (v := gv) rfl (by kernel_rfl) (by kernel_rfl) (by kernel_rfl) (fun _ _ _ h => h) (Or.inl ⟨by kernel_rfl, ?_⟩) hS ?_
                · intro w5 hSw
                  have h0 := hSw.cell HF2.out
                  clear hSw hS
                  go_simp
                simp only [Act.put, List.setIfInBounds_toArray, List.set_cons_zero, List.set_cons_succ]
                refine wpAnyH_take (i := 14) (oi := { dst := some 136, op := Go.Op.convert 29 9 (Go.Operand.tmp 135), type := 9, pos := "outright.go:198", after := #[{ on := 13, ground := Go.Ground.data }, { on := 8, ground := Go.Ground.guard }], guard := some (8, false) }) (v := .string ⟨kt.toArray⟩) rfl (by kernel_rfl) (by kernel_rfl) (by kernel_rfl) (fun _ _ _ h => h) (Or.inl ⟨by kernel_rfl, ?_⟩) hS ?_
                · intro w5 hSw
                  have h0 := conv_sb2 (HSb1.out.up hSw)
                  clear hSw hS
                  go_simp
                simp only [Act.put, List.setIfInBounds_toArray, List.set_cons_zero, List.set_cons_succ]
                refine wpAnyH_take (i := 15) (oi := { dst := some 137, op := Go.Op.move (Go.Operand.tmp 7), type := 54, pos := "outright.go:198", after := #[{ on := 8, ground := Go.Ground.guard }], guard := some (8, false) }) (v := .slice (some ⟨g7, 0, none⟩) n c7) rfl (by kernel_rfl) (by kernel_rfl) (by kernel_rfl) (fun _ _ _ h => h) (Or.inl ⟨by kernel_rfl, ?_⟩) hS ?_
                · intro w5 hSw
                  clear hSw hS
                  go_simp
                simp only [Act.put, List.setIfInBounds_toArray, List.set_cons_zero, List.set_cons_succ]
                refine wpAnyH_take (i := 16) (oi := { dst := some 138, op := Go.Op.move (Go.Operand.tmp 15), type := 3, pos := "outright.go:198", after := #[{ on := 8, ground := Go.Ground.guard }], guard := some (8, false) }) (v := .int .i64 (j : Int)) rfl (by kernel_rfl) (by kernel_rfl) (by kernel_rfl) (fun _ _ _ h => h) (Or.inl ⟨by kernel_rfl, ?_⟩) hS ?_
                · intro w5 hSw
                  clear hSw hS
                  go_simp
                simp only [Act.put, List.setIfInBounds_toArray, List.set_cons_zero, List.set_cons_succ]
                refine wpAnyH_take (i := 17) (oi := { dst := some 139, op := Go.Op.indexAddr 54 (Go.Operand.tmp 137) (Go.Operand.tmp 138), type := 0, pos := "outright.go:198", after := #[{ on := 15, ground := Go.Ground.data }, { on := 16, ground := Go.Ground.data }, { on := 8, ground := Go.Ground.guard }], guard := some (8, false) }) (v := .pointer (some ⟨g7, j, none⟩)) rfl (by kernel_rfl) (by kernel_rfl) (by kernel_rfl) (fun _ _ _ h => h) (Or.inl ⟨by kernel_rfl, ?_⟩) hS ?_
                · intro w5 hSw
                  clear hSw hS
                  go_simp
                simp only [Act.put, List.setIfInBounds_toArray, List.set_cons_zero, List.set_cons_succ]
                refine wpAnyH_take (i := 18) (oi := { dst := some 140, op := Go.Op.load 29 (Go.Operand.tmp 139), type := 29, pos := "outright.go:198", after := #[{ on := 17, ground := Go.Ground.data }, { on := 8, ground := Go.Ground.guard }], guard := some (8, false) }) (v := .slice ak kj.length ck) rfl (by kernel_rfl) (by kernel_rfl) (by kernel_rfl) (fun _ _ _ h => h) (Or.inl ⟨by kernel_rfl, ?_⟩) hS ?_
                · intro w5 hSw
                  have h0 := hSw.cell HKx.out
                  clear hSw hS
                  go_simp
                simp only [Act.put, List.setIfInBounds_toArray, List.set_cons_zero, List.set_cons_succ]
                refine wpAnyH_take (i := 19) (oi := { dst := some 141, op := Go.Op.move (Go.Operand.tmp 16), type := 3, pos := "outright.go:198", after := #[{ on := 8, ground := Go.Ground.guard }], guard := some (8, false) }) (v := .int .i64 (lg : Int)) rfl (by kernel_rfl) (by kernel_rfl) (by kernel_rfl) (fun _ _ _ h => h) (Or.inl ⟨by kernel_rfl, ?_⟩) hS ?_
                · intro w5 hSw
                  clear hSw hS
                  go_simp
                simp only [Act.put, List.setIfInBounds_toArray, List.set_cons_zero, List.set_cons_succ]
                refine wpAnyH_take (i := 20) (oi := { dst := some 142, op := Go.Op.slice 29 (Go.Operand.tmp 140) none (some (Go.Operand.tmp 141)) none, type := 29, pos := "outright.go:198", after := #[{ on := 18, ground := Go.Ground.data }, { on := 19, ground := Go.Ground.data }, { on := 8, ground := Go.Ground.guard }], guard := some (8, false) }) (v := .slice ak lg ck) rfl (by kernel_rfl) (by kernel_rfl) (by kernel_rfl) (fun _ _ _ h => h) (Or.inl ⟨by kernel_rfl, ?_⟩) hS ?_
                · intro w5 hSw
                  clear hSw hS
                  exact exec_cutSl hlg hck rfl rfl rfl hak
                simp only [Act.put, List.setIfInBounds_toArray, List.set_cons_zero, List.set_cons_succ]
                refine wpAnyH_take (i := 21) (oi := { dst := some 143, op := Go.Op.convert 29 9 (Go.Operand.tmp 142), type := 9, pos := "outright.go:198", after := #[{ on := 20, ground := Go.Ground.data }, { on := 8, ground := Go.Ground.guard }], guard := some (8, false) }) (v := .string ⟨kt.toArray⟩) rfl (by kernel_rfl) (by kernel_rfl) (by kernel_rfl) (fun _ _ _ h => h) (Or.inl ⟨by kernel_rfl, ?_⟩) hS ?_
                · intro w5 hSw
                  have h0 := conv_sb2 (HSb2.out.up hSw)
                  clear hSw hS
                  go_simp
                simp only [Act.put, List.setIfInBounds_toArray, List.set_cons_zero, List.set_cons_succ]
                refine wpAnyH_take (i := 22) (oi := { dst := some 144, op := Go.Op.binOp Go.BinOp.neq 9 (Go.Operand.tmp 136) (Go.Operand.tmp 143) 9, type := 4, pos := "outright.go:198", after := #[{ on := 14, ground := Go.Ground.data }, { on := 21, ground := Go.Ground.data }, { on := 8, ground := Go.Ground.guard }], guard := some (8, false) }) (v := .bool false) rfl (by kernel_rfl) (by kernel_rfl) (by kernel_rfl) (fun _ _ _ h => h) (Or.inl ⟨by kernel_rfl, ?_⟩) hS ?_
                · intro w5 hSw
                  clear hSw hS
                  go_simp
                simp only [Act.put, List.setIfInBounds_toArray, List.set_cons_zero, List.set_cons_succ]
                refine wpAnyH_take (i := 23) (oi := { dst := some 145, op := Go.Op.pick (Go.Operand.tmp 130) (Go.Operand.const (Go.Value.bool true)) (Go.Operand.tmp 144), type := 4, pos := "outright.go:198", after := #[{ on := 8, ground := Go.Ground.data }, { on := 22, ground := Go.Ground.data }], guard := none }) (v := .bool false) rfl (by kernel_rfl) (by kernel_rfl) (by kernel_rfl) (fun _ _ _ h => h) (Or.inl ⟨by kernel_rfl, ?_⟩) hS ?_
                · intro w5 hSw
                  clear hSw hS
                  go_simp
                simp only [Act.put, List.setIfInBounds_toArray, List.set_cons_zero, List.set_cons_succ]
                have HSY := Hid.of hS
                clear hS
                refine wpAnyH_done (by kernel_rfl) ?_ _
                go_wp2
                go_roundw
                all_goals first
                  | exact ⟨j + 1, by go_num, by omega, Hid.of (HU.out.trans HSY.out)⟩
                  | (simp [intOf]; omega)
              · have hc1z : ¬ (j : Int) + 1 < (cs.length : Int) := by omega
                have hlg0 : lg = 0 := by rw [← hlgd]; exact cz_out hc1
                subst hlg0
                have HSW := Hid.of (Up.refl wr)
                clear hlgd
                go_wp2
                refine wp_region_held_drew (S := fun w2 => Up wr w2) (by kernel_rfl) HSW.out.drew (fun hS => ?_)
                refine wpAnyH_take (i := 0) (oi := { dst := some 122, op := Go.Op.move (Go.Operand.tmp 12), type := 52, pos := "outright.go:198", after := #[], guard := none }) (v := .slice (some ⟨b9, o9, none⟩) fs.length c9) rfl (by kernel_rfl) (by kernel_rfl) (by kernel_rfl) (fun _ _ _ h => h) (Or.inl ⟨by kernel_rfl, ?_⟩) hS ?_
                · intro w5 hSw
                  clear hSw hS
                  go_simp
                simp only [Act.put, List.setIfInBounds_toArray, List.set_cons_zero, List.set_cons_succ]
                refine wpAnyH_take (i := 1) (oi := { dst := some 123, op := Go.Op.move (Go.Operand.tmp 15), type := 3, pos := "outright.go:198", after := #[], guard := none }) (v := .int .i64 (j : Int)) rfl (by kernel_rfl) (by kernel_rfl) (by kernel_rfl) (fun _ _ _ h => h) (Or.inl ⟨by kernel_rfl, ?_⟩) hS ?_
                · intro w5 hSw
                  clear hSw hS
                  go_simp
                simp only [Act.put, List.setIfInBounds_toArray, List.set_cons_zero, List.set_cons_succ]
                refine wpAnyH_take (i := 2) (oi := { dst := some 124, op := Go.Op.indexAddr 52 (Go.Operand.tmp 122) (Go.Operand.tmp 123), type := 0, pos := "outright.go:198", after := #[{ on := 0, ground := Go.Ground.data }, { on := 1, ground := Go.Ground.data }], guard := none }) (v := .pointer (some ⟨b9, o9 + j * 2, none⟩)) rfl (by kernel_rfl) (by kernel_rfl) (by kernel_rfl) (fun _ _ _ h => h) (Or.inl ⟨by kernel_rfl, ?_⟩) hS ?_
                · intro w5 hSw
                  clear hSw hS
                  exact exec_idxFile j hjf rfl rfl rfl
                simp only [Act.put, List.setIfInBounds_toArray, List.set_cons_zero, List.set_cons_succ]
                refine wpAnyH_take (i := 3) (oi := { dst := some 125, op := Go.Op.fieldAddr 51 (Go.Operand.tmp 124) 0, type := 0, pos := "outright.go:198", after := #[{ on := 2, ground := Go.Ground.data }], guard := none }) (v := .pointer (some ⟨b9, o9 + j * 2, none⟩)) rfl (by kernel_rfl) (by kernel_rfl) (by kernel_rfl) (fun _ _ _ h => h) (Or.inl ⟨by kernel_rfl, ?_⟩) hS ?_
                · intro w5 hSw
                  clear hSw hS
                  go_simp
                simp only [Act.put, List.setIfInBounds_toArray, List.set_cons_zero, List.set_cons_succ]
                refine wpAnyH_take (i := 4) (oi := { dst := some 126, op := Go.Op.load 9 (Go.Operand.tmp 125), type := 9, pos := "outright.go:198", after := #[{ on := 3, ground := Go.Ground.data }], guard := none }) (v := .string ⟨(ltr j).toArray⟩) rfl (by kernel_rfl) (by kernel_rfl) (by kernel_rfl) (fun _ _ _ h => h) (Or.inl ⟨by kernel_rfl, ?_⟩) hS ?_
                · intro w5 hSw
                  have h0 := hSw.cell HF1.out
                  clear hSw hS
                  go_simp
                simp only [Act.put, List.setIfInBounds_toArray, List.set_cons_zero, List.set_cons_succ]
                refine wpAnyH_take (i := 5) (oi := { dst := some 127, op := Go.Op.move (Go.Operand.tmp 15), type := 3, pos := "outright.go:198", after := #[], guard := none }) (v := .int .i64 (j : Int)) rfl (by kernel_rfl) (by kernel_rfl) (by kernel_rfl) (fun _ _ _ h => h) (Or.inl ⟨by kernel_rfl, ?_⟩) hS ?_
                · intro w5 hSw
                  clear hSw hS
                  go_simp
                simp only [Act.put, List.setIfInBounds_toArray, List.set_cons_zero, List.set_cons_succ]
                refine wpAnyH_ready (rs := [6]) (by kernel_rfl) (by simp) ?_
                refine AllReadyH.cons (o := { dst := some 128, op := Go.Op.call { callee := Go.Callee.value (Go.Operand.func 16), args := #[Go.Operand.tmp 127], argTypes := #[3] }, type := 9, pos := "outright.go:198", after := #[{ on := 5, ground := Go.Ground.data }], guard := none }) rfl (fun K hK => ?_) AllReadyH.nil
                rw [if_pos (by kernel_rfl)]
                go_simp
                refine (letters_walk j (by omega) _).mono ?_
                rintro e w5 ⟨rfl, u5⟩
                dsimp only
                refine hK.out _ _ (hS.trans u5) (fun hS => ?_)
                clear hK K u5
                refine wpAnyH_take (i := 7) (oi := { dst := some 129, op := Go.Op.binOp Go.BinOp.neq 9 (Go.Operand.tmp 126) (Go.Operand.tmp 128) 9, type := 4, pos := "outright.go:198", after := #[{ on := 4, ground := Go.Ground.data }, { on := 6, ground := Go.Ground.data }], guard := none }) (v := .bool false) rfl (by kernel_rfl) (by kernel_rfl) (by kernel_rfl) (fun _ _ _ h => h) (Or.inl ⟨by kernel_rfl, ?_⟩) hS ?_
                · intro w5 hSw
                  clear hSw hS
                  go_simp
                simp only [Act.put, List.setIfInBounds_toArray, List.set_cons_zero, List.set_cons_succ]
                refine wpAnyH_take (i := 8) (oi := { dst := some 130, op := Go.Op.move (Go.Operand.tmp 129), type := 4, pos := "outright.go:198", after := #[{ on := 7, ground := Go.Ground.data }, { on := 6, ground := Go.Ground.chain }], guard := none }) (v := .bool false) rfl (by kernel_rfl) (by kernel_rfl) (by kernel_rfl) (fun _ _ _ h => h) (Or.inl ⟨by kernel_rfl, ?_⟩) hS ?_
                · intro w5 hSw
                  clear hSw hS
                  go_simp
                simp only [Act.put, List.setIfInBounds_toArray, List.set_cons_zero, List.set_cons_succ]
                refine wpAnyH_take (i := 9) (oi := { dst := some 131, op := Go.Op.move (Go.Operand.tmp 12), type := 52, pos := "outright.go:198", after := #[{ on := 8, ground := Go.Ground.guard }], guard := some (8, false) }) (v := .slice (some ⟨b9, o9, none⟩) fs.length c9) rfl (by kernel_rfl) (by kernel_rfl) (by kernel_rfl) (fun _ _ _ h => h) (Or.inl ⟨by kernel_rfl, ?_⟩) hS ?_
                · intro w5 hSw
                  clear hSw hS
                  go_simp
                simp only [Act.put, List.setIfInBounds_toArray, List.set_cons_zero, List.set_cons_succ]
                refine wpAnyH_take (i := 10) (oi := { dst := some 132, op := Go.Op.move (Go.Operand.tmp 15), type := 3, pos := "outright.go:198", after := #[{ on := 8, ground := Go.Ground.guard }], guard := some (8, false) }) (v := .int .i64 (j : Int)) rfl (by kernel_rfl) (by kernel_rfl) (by kernel_rfl) (fun _ _ _ h => h) (Or.inl ⟨by kernel_rfl, ?_⟩) hS ?_
                · intro w5 hSw
                  clear hSw hS
                  go_simp
                simp only [Act.put, List.setIfInBounds_toArray, List.set_cons_zero, List.set_cons_succ]
                refine wpAnyH_take (i := 11) (oi := { dst := some 133, op := Go.Op.indexAddr 52 (Go.Operand.tmp 131) (Go.Operand.tmp 132), type := 0, pos := "outright.go:198", after := #[{ on := 9, ground := Go.Ground.data }, { on := 10, ground := Go.Ground.data }, { on := 8, ground := Go.Ground.guard }], guard := some (8, false) }) (v := .pointer (some ⟨b9, o9 + j * 2, none⟩)) rfl (by kernel_rfl) (by kernel_rfl) (by kernel_rfl) (fun _ _ _ h => h) (Or.inl ⟨by kernel_rfl, ?_⟩) hS ?_
                · intro w5 hSw
                  clear hSw hS
                  exact exec_idxFile j hjf rfl rfl rfl
                simp only [Act.put, List.setIfInBounds_toArray, List.set_cons_zero, List.set_cons_succ]
                refine wpAnyH_take (i := 12) (oi := { dst := some 134, op := Go.Op.fieldAddr 51 (Go.Operand.tmp 133) 1, type := 0, pos := "outright.go:198", after := #[{ on := 11, ground := Go.Ground.data }, { on := 8, ground := Go.Ground.guard }], guard := some (8, false) }) (v := .pointer (some ⟨b9, o9 + j * 2 + 1, none⟩)) rfl (by kernel_rfl) (by kernel_rfl) (by kernel_rfl) (fun _ _ _ h => h) (Or.inl ⟨by kernel_rfl, ?_⟩) hS ?_
                · intro w5 hSw
                  clear hSw hS
                  go_simp
                simp only [Act.put, List.setIfInBounds_toArray, List.set_cons_zero, List.set_cons_succ]
                refine wpAnyH_take (i := 13) (oi := { dst := some 135, op := Go.Op.load 29 (Go.Operand.tmp 134), type := 29, pos := "outright.go:198", after := #[{ on := 12, ground := Go.Ground.data }, { on := 8, ground := Go.Ground.guard }], guard := some (8, false) }) (v := gv) rfl (by kernel_rfl) (by kernel_rfl) (by kernel_rfl) (fun _ _ _ h => h) (Or.inl ⟨by kernel_rfl, ?_⟩) hS ?_
                · intro w5 hSw
                  have h0 := hSw.cell HF2.out
                  clear hSw hS
                  go_simp
                simp only [Act.put, List.setIfInBounds_toArray, List.set_cons_zero, List.set_cons_succ]
                refine wpAnyH_take (i := 14) (oi := { dst := some 136, op := Go.Op.convert 29 9 (Go.Operand.tmp 135), type := 9, pos := "outright.go:198", after := #[{ on := 13, ground := Go.Ground.data }, { on := 8, ground := Go.Ground.guard }], guard := some (8, false) }) (v := .string ⟨kt.toArray⟩) rfl (by kernel_rfl) (by kernel_rfl) (by kernel_rfl) (fun _ _ _ h => h) (Or.inl ⟨by kernel_rfl, ?_⟩) hS ?_
                · intro w5 hSw
                  have h0 := conv_sb2 (HSb1.out.up hSw)
                  clear hSw hS
                  go_simp
                simp only [Act.put, List.setIfInBounds_toArray, List.set_cons_zero, List.set_cons_succ]
                refine wpAnyH_take (i := 15) (oi := { dst := some 137, op := Go.Op.move (Go.Operand.tmp 7), type := 54, pos := "outright.go:198", after := #[{ on := 8, ground := Go.Ground.guard }], guard := some (8, false) }) (v := .slice (some ⟨g7, 0, none⟩) n c7) rfl (by kernel_rfl) (by kernel_rfl) (by kernel_rfl) (fun _ _ _ h => h) (Or.inl ⟨by kernel_rfl, ?_⟩) hS ?_
                · intro w5 hSw
                  clear hSw hS
                  go_simp
                simp only [Act.put, List.setIfInBounds_toArray, List.set_cons_zero, List.set_cons_succ]
                refine wpAnyH_take (i := 16) (oi := { dst := some 138, op := Go.Op.move (Go.Operand.tmp 15), type := 3, pos := "outright.go:198", after := #[{ on := 8, ground := Go.Ground.guard }], guard := some (8, false) }) (v := .int .i64 (j : Int)) rfl (by kernel_rfl) (by kernel_rfl) (by kernel_rfl) (fun _ _ _ h => h) (Or.inl ⟨by kernel_rfl, ?_⟩) hS ?_
                · intro w5 hSw
                  clear hSw hS
                  go_simp
                simp only [Act.put, List.setIfInBounds_toArray, List.set_cons_zero, List.set_cons_succ]
                refine wpAnyH_take (i := 17) (oi := { dst := some 139, op := Go.Op.indexAddr 54 (Go.Operand.tmp 137) (Go.Operand.tmp 138), type := 0, pos := "outright.go:198", after := #[{ on := 15, ground := Go.Ground.data }, { on := 16, ground := Go.Ground.data }, { on := 8, ground := Go.Ground.guard }], guard := some (8, false) }) (v := .pointer (some ⟨g7, j, none⟩)) rfl (by kernel_rfl) (by kernel_rfl) (by kernel_rfl) (fun _ _ _ h => h) (Or.inl ⟨by kernel_rfl, ?_⟩) hS ?_
                · intro w5 hSw
                  clear hSw hS
                  go_simp
                simp only [Act.put, List.setIfInBounds_toArray, List.set_cons_zero, List.set_cons_succ]
                refine wpAnyH_take (i := 18) (oi := { dst := some 140, op := Go.Op.load 29 (Go.Operand.tmp 139), type := 29, pos := "outright.go:198", after := #[{ on := 17, ground := Go.Ground.data }, { on := 8, ground := Go.Ground.guard }], guard := some (8, false) }) (v := .slice ak kj.length ck) rfl (by kernel_rfl) (by kernel_rfl) (by kernel_rfl) (fun _ _ _ h => h) (Or.inl ⟨by kernel_rfl, ?_⟩) hS ?_
                · intro w5 hSw
                  have h0 := hSw.cell HKx.out
                  clear hSw hS
                  go_simp
                simp only [Act.put, List.setIfInBounds_toArray, List.set_cons_zero, List.set_cons_succ]
                refine wpAnyH_take (i := 19) (oi := { dst := some 141, op := Go.Op.move (Go.Operand.tmp 16), type := 3, pos := "outright.go:198", after := #[{ on := 8, ground := Go.Ground.guard }], guard := some (8, false) }) (v := .int .i64 0) rfl (by kernel_rfl) (by kernel_rfl) (by kernel_rfl) (fun _ _ _ h => h) (Or.inl ⟨by kernel_rfl, ?_⟩) hS ?_
                · intro w5 hSw
                  clear hSw hS
                  go_simp
                simp only [Act.put, List.setIfInBounds_toArray, List.set_cons_zero, List.set_cons_succ]
                refine wpAnyH_take (i := 20) (oi := { dst := some 142, op := Go.Op.slice 29 (Go.Operand.tmp 140) none (some (Go.Operand.tmp 141)) none, type := 29, pos := "outright.go:198", after := #[{ on := 18, ground := Go.Ground.data }, { on := 19, ground := Go.Ground.data }, { on := 8, ground := Go.Ground.guard }], guard := some (8, false) }) (v := .slice ak 0 ck) rfl (by kernel_rfl) (by kernel_rfl) (by kernel_rfl) (fun _ _ _ h => h) (Or.inl ⟨by kernel_rfl, ?_⟩) hS ?_
                · intro w5 hSw
                  clear hSw hS
                  exact exec_cutSl hlg hck rfl rfl rfl hak
                simp only [Act.put, List.setIfInBounds_toArray, List.set_cons_zero, List.set_cons_succ]
                refine wpAnyH_take (i := 21) (oi := { dst := some 143, op := Go.Op.convert 29 9 (Go.Operand.tmp 142), type := 9, pos := "outright.go:198", after := #[{ on := 20, ground := Go.Ground.data }, { on := 8, ground := Go.Ground.guard }], guard := some (8, false) }) (v := .string ⟨kt.toArray⟩) rfl (by kernel_rfl) (by kernel_rfl) (by kernel_rfl) (fun _ _ _ h => h) (Or.inl ⟨by kernel_rfl, ?_⟩) hS ?_
                · intro w5 hSw
                  have h0 := conv_sb2 (HSb2.out.up hSw)
                  clear hSw hS
                  go_simp
                simp only [Act.put, List.setIfInBounds_toArray, List.set_cons_zero, List.set_cons_succ]
                refine wpAnyH_take (i := 22) (oi := { dst := some 144, op := Go.Op.binOp Go.BinOp.neq 9 (Go.Operand.tmp 136) (Go.Operand.tmp 143) 9, type := 4, pos := "outright.go:198", after := #[{ on := 14, ground := Go.Ground.data }, { on := 21, ground := Go.Ground.data }, { on := 8, ground := Go.Ground.guard }], guard := some (8, false) }) (v := .bool false) rfl (by kernel_rfl) (by kernel_rfl) (by kernel_rfl) (fun _ _ _ h => h) (Or.inl ⟨by kernel_rfl, ?_⟩) hS ?_
                · intro w5 hSw
                  clear hSw hS
                  go_simp
                simp only [Act.put, List.setIfInBounds_toArray, List.set_cons_zero, List.set_cons_succ]
                refine wpAnyH_take (i := 23) (oi := { dst := some 145, op := Go.Op.pick (Go.Operand.tmp 130) (Go.Operand.const (Go.Value.bool true)) (Go.Operand.tmp 144), type := 4, pos := "outright.go:198", after := #[{ on := 8, ground := Go.Ground.data }, { on := 22, ground := Go.Ground.data }], guard := none }) (v := .bool false) rfl (by kernel_rfl) (by kernel_rfl) (by kernel_rfl) (fun _ _ _ h => h) (Or.inl ⟨by kernel_rfl, ?_⟩) hS ?_
                · intro w5 hSw
                  clear hSw hS
                  go_simp
                simp only [Act.put, List.setIfInBounds_toArray, List.set_cons_zero, List.set_cons_succ]
                have HSY := Hid.of hS
                clear hS
                refine wpAnyH_done (by kernel_rfl) ?_ _
                go_wp2
                go_roundw
                all_goals first
                  | exact ⟨j + 1, by go_num, by omega, Hid.of (HU.out.trans HSY.out)⟩
                  | (simp [intOf]; omega)
            · have hjz : ¬ (j : Int) < (fs.length : Int) := by omega
              go_wp2
              go_ret
              exact ⟨rfl, HUw.out.trans HU.out⟩
        · have hc0z : ¬ (0 : Int) < (cs.length : Int) := by omega
          have hfl0 : fs.length = 0 := by rw [HFo.out.1, cz_out hc0]
          obtain rfl := List.eq_nil_of_length_eq_zero hfl0
          clear HFo HFs HK9 hfl0
          go_wp2
          go_loopw [15] (fun v15 wr => v15 = .int .i64 0 ∧ Hid (Up w9 wr)) (fun _ _ => 0)
          case atStart => exact ⟨rfl, Hid.of (Up.refl _)⟩
          case round =>
            obtain ⟨rfl, hU⟩ := hrel
            go_wp2
            go_ret
            exact ⟨rfl, HUw.out.trans hU.out⟩
      · have hltz : ¬ (i : Int) < (ls.length : Int) := by omega
        clear hlt
        go_wp2_with fail
        refine (Pending_gen wr HJ.out.ok).mono ?_
        rintro e w3 ⟨rfl, u3⟩
        rw [HJ.out.pend, HN.out, show ((2 * n : Nat) : Int) = 2 * (n : Int) by omega]
        have HU3 := Hid.of u3
        clear u3
        dsimp only
        go_wp2_with fail
        refine (Acts_gen w3 (HJ.out.ok.up HU3.out)).mono ?_
        rintro e w4 ⟨rfl, h9⟩
        obtain rfl := h9.symm
        clear h9
        rw [HJ.out.st.2.2.2.2.2.2.1, HN.out, show ((2 * n : Nat) : Int) = 2 * (n : Int) by omega]
        dsimp only
        have HAf := Hid.of (after_gen w.heap.size D (4 * K.length) 1048576 s (.slice ac cs.length cc) cs w3 (HJ.out.ok.up HU3.out) (HC.out.up (HJ.out.up.trans HU3.out)) HJ.out.cf (by have := HJ.out.st; have := HN.out; omega) hcl (by have := HN.out; omega))
        go_wp2_with fail
        refine HAf.out.mono ?_
        rintro e w9 ⟨a9, fs, c9, gs, ws, rfl, o9, f9, k9, lf, e9⟩
        have HFo := Hid.of (HJ.out.found lf e9)
        have HFs := Hid.of o9.fsl
        have hU9 : Up w w9 := up_disk (HJ.out.up.trans HU3.out) HJ.out.lo (f9.weak (fun g hg => .inl hg))
        have HUw := Hid.of hU9
        have HC9 := Hid.of (HC.out.up hU9)
        have hfD : ∀ {B e m v q xs}, (∀ k, v.ownBlock = some k → ¬ own D s k) → w3.ownsRow B e m v q xs → w9.ownsRow B e m v q xs := fun hk h => f9.own h (fun g hg e => hk g hg (.inl e))
        have HK9 := Hid.of (show w9.ownsRow w.heap.size 29 1 (.slice a7 n c7) n xs ∧ ∀ i (h : i < K.length) (h' : i < xs.length), Ow w9 w.heap.size xs[i] K[i] from ⟨by
          have h1 := hfD HJ.out.kr.nr (ow_up HJ.out.kr.row HU3.out)
          rw [HN.out] at h1
          exact h1, fun i h h' => hfD (HJ.out.kr.ne _ (List.getElem_mem h')) (ow_up (HJ.out.kr.el i h h') HU3.out)⟩)
        have hcf := (HFs.out).cap
        clear o9 f9 k9 lf e9 HAf hU9 hfD
        dsimp only
        by_cases hc0 : 0 < cs.length
        · have hc0z : (0 : Int) < (cs.length : Int) := by omega
          obtain ⟨bc0, oc0, rfl, q4⟩ := si_cell HC9.out hc0
          rw [Nat.add_zero] at q4
          have hfl : (cs[0] % ((n : Int) + 1)).toNat = fs.length := by rw [HFo.out.1, cz_pos hc0, HN.out]
          have HFL := Hid.of hfl
          obtain ⟨x0, hx0⟩ : ∃ x0, cs[0] = x0 := ⟨_, rfl⟩
          rw [hx0] at q4 HFL
          clear hx0 hfl
          go_wp2_with fail
          refine (within_gen x0 n (by omega) _).mono ?_
          rintro e w4 ⟨rfl, h9⟩
          obtain rfl := h9.symm
          clear h9
          rw [HFL.out]
          clear HFL q4
          dsimp only
          go_wp2
          go_loopw [15] (fun v15 wr => ∃ j : Nat, v15 = .int .i64 (j : Int) ∧ j ≤ fs.length ∧ Hid (Up w9 wr)) (fun v15 _ => fs.length - (intOf v15).toNat)
          case atStart => exact ⟨0, rfl, by omega, Hid.of (Up.refl _)⟩
          case round =>
            obtain ⟨j, rfl, hj, hU⟩ := hrel
            have HU := Hid.of hU.out
            clear hU
            by_cases hjf : j < fs.length
            · have hjz : (j : Int) < (fs.length : Int) := by omega
              have hjk : j < K.length := by have := cz_le cs 0 K.length; have := HFo.out.1; omega
              have hjn : (j : Int) < (n : Int) := by have := HN.out; omega
              have hjn0 : j < n := by omega
              have hj100 : j ≤ 100 := by omega
              have hj0 : ¬ (j : Int) + 1 < 0 := by omega
              obtain ⟨b9, o9, rfl, q1, q2⟩ := HFs.out.cells j hjf
              obtain ⟨g7, rfl, hnc7, hx7, q3⟩ := own_get (j := j) HK9.out.1 hjn0
              have hnc7z : (n : Int) ≤ (c7 : Int) := by omega
              have hO := HK9.out.2 j hjk hx7
              have HF1 := Hid.of (HU.out.cell q1)
              have HF2 := Hid.of (HU.out.cell q2)
              have HKx := Hid.of (HU.out.cell q3)
              have HSb1 := Hid.of ((HFs.out.sb _ (List.getElem_mem hjf)).up HU.out)
              have HSb2 := Hid.of (Ow.sb (ow_up hO HU.out))
              have hnm := (HFo.out.2 j hjf hjk).1
              have hdat := (HFo.out.2 j hjf hjk).2
              have hkl := (HJ.out.sz _ (List.getElem_mem hjk)).2
              rw [hnm] at HF1
              rw [hdat] at HSb1
              obtain ⟨kj, hkj⟩ : ∃ kj, K[j] = kj := ⟨_, rfl⟩
              rw [hkj] at HSb1 HSb2 hkl hO
              obtain ⟨xj, hxj⟩ : ∃ xj, xs[j] = xj := ⟨_, rfl⟩
              rw [hxj] at HKx HSb2 hO
              obtain ⟨gv, hgv⟩ : ∃ gv, (fs[j]).v = gv := ⟨_, rfl⟩
              rw [hgv] at HF2 HSb1
              obtain ⟨ak, ck, rfl⟩ := row_len hO
              obtain ⟨lg, hlgd⟩ : ∃ lg, cz cs (j + 1) kj.length = lg := ⟨_, rfl⟩
              have hlg : lg ≤ kj.length := by rw [← hlgd]; exact cz_le _ _ _
              have hck : kj.length ≤ ck := by
                obtain ⟨_, _, e, h1, _⟩ := HSb2.out
                injection e with _ _ e3
                omega
              have hak : ak = none → ck = 0 := fun e => by
                obtain ⟨_, _, e1, _, _, h3, _⟩ := HSb2.out
                injection e1 with e2 _ e3
                rw [e3]
                exact (h3 (by rw [← e2]; exact e)).2
              replace HSb2 := Hid.of (HSb2.out.take lg hlg)
              rw [hlgd] at HSb1
              obtain ⟨kt, hkt⟩ : ∃ kt, kj.take lg = kt := ⟨_, rfl⟩
              rw [hkt] at HSb1 HSb2
              clear q1 q2 q3 hO hnm hdat hkj hxj hgv hkt
              by_cases hc1 : j + 1 < cs.length
              · have hc1z : (j : Int) + 1 < (cs.length : Int) := by omega
                obtain ⟨bc, oc, hbo, q4⟩ := si_cell HC9.out hc1
                simp only [Option.some.injEq, Addr.mk.injEq, and_true] at hbo
                obtain ⟨rfl, rfl⟩ := hbo
                have HKc := Hid.of (HU.out.cell q4)
                obtain ⟨xc, hxc⟩ : ∃ xc, cs[j + 1] = xc := ⟨_, rfl⟩
                rw [hxc] at HKc
                have hlgx : (xc % ((kj.length : Int) + 1)).toNat = lg := by rw [← hlgd, cz_pos hc1, hxc]
                have HLX := Hid.of hlgx
                clear q4 hxc hlgd hlgx
                go_wp2
                refine wp_region_held_drew (S := fun w2 => Up wr w2) (by kernel_rfl) (Up.refl _).drew (fun hS => ?_)
                refine wpAnyH_take (i := 0) (oi := { dst := some 111, op := Go.Op.move (Go.Operand.tmp 1), type := 42, pos := "outright.go:196", after := #[], guard := none }) (v := .slice (some ⟨bc0, oc0, none⟩) cs.length cc) rfl (by kernel_rfl) (by kernel_rfl) (by kernel_rfl) (fun _ _ _ h => h) (Or.inl ⟨by kernel_rfl, ?_⟩) hS ?_
                · intro w5 hSw
                  clear hSw hS
                  go_simp
                simp only [Act.put, List.setIfInBounds_toArray, List.set_cons_zero, List.set_cons_succ]
                refine wpAnyH_take (i := 1) (oi := { dst := some 112, op := Go.Op.move (Go.Operand.tmp 15), type := 3, pos := "outright.go:196", after := #[], guard := none }) (v := .int .i64 (j : Int)) rfl (by kernel_rfl) (by kernel_rfl) (by kernel_rfl) (fun _ _ _ h => h) (Or.inl ⟨by kernel_rfl, ?_⟩) hS ?_
                · intro w5 hSw
                  clear hSw hS
                  go_simp
                simp only [Act.put, List.setIfInBounds_toArray, List.set_cons_zero, List.set_cons_succ]
                refine wpAnyH_take (i := 2) (oi := { dst := some 113, op := Go.Op.binOp Go.BinOp.add 3 (Go.Operand.tmp 112) (Go.Operand.const (Go.Value.int Go.IntKind.i64 1)) 3, type := 3, pos := "outright.go:196", after := #[{ on := 1, ground := Go.Ground.data }], guard := none }) (v := .int .i64 ((j : Int) + 1)) rfl (by kernel_rfl) (by kernel_rfl) (by kernel_rfl) (fun _ _ _ h => h) (Or.inl ⟨by kernel_rfl, ?_⟩) hS ?_
                · intro w5 hSw
                  clear hSw hS
                  (go_simp; rw [IntKind.wrap_i64]; omega)
                simp only [Act.put, List.setIfInBounds_toArray, List.set_cons_zero, List.set_cons_succ]
                refine wpAnyH_take (i := 3) (oi := { dst := some 114, op := Go.Op.indexAddr 42 (Go.Operand.tmp 111) (Go.Operand.tmp 113), type := 0, pos := "outright.go:196", after := #[{ on := 0, ground := Go.Ground.data }, { on := 2, ground := Go.Ground.data }], guard := none }) (v := .pointer (some ⟨bc0, oc0 + (j + 1), none⟩)) rfl (by kernel_rfl) (by kernel_rfl) (by kernel_rfl) (fun _ _ _ h => h) (Or.inl ⟨by kernel_rfl, ?_⟩) hS ?_
                · intro w5 hSw
                  clear hSw hS
                  go_simp
                simp only [Act.put, List.setIfInBounds_toArray, List.set_cons_zero, List.set_cons_succ]
                refine wpAnyH_take (i := 4) (oi := { dst := some 115, op := Go.Op.load 3 (Go.Operand.tmp 114), type := 3, pos := "outright.go:196", after := #[{ on := 3, ground := Go.Ground.data }], guard := none }) (v := .int .i64 xc) rfl (by kernel_rfl) (by kernel_rfl) (by kernel_rfl) (fun _ _ _ h => h) (Or.inl ⟨by kernel_rfl, ?_⟩) hS ?_
                · intro w5 hSw
                  have h0 := hSw.cell HKc.out
                  clear hSw hS
                  go_simp
                simp only [Act.put, List.setIfInBounds_toArray, List.set_cons_zero, List.set_cons_succ]
                refine wpAnyH_take (i := 5) (oi := { dst := some 116, op := Go.Op.move (Go.Operand.tmp 7), type := 54, pos := "outright.go:196", after := #[], guard := none }) (v := .slice (some ⟨g7, 0, none⟩) n c7) rfl (by kernel_rfl) (by kernel_rfl) (by kernel_rfl) (fun _ _ _ h => h) (Or.inl ⟨by kernel_rfl, ?_⟩) hS ?_
                · intro w5 hSw
                  clear hSw hS
                  go_simp
                simp only [Act.put, List.setIfInBounds_toArray, List.set_cons_zero, List.set_cons_succ]
                refine wpAnyH_take (i := 6) (oi := { dst := some 117, op := Go.Op.move (Go.Operand.tmp 15), type := 3, pos := "outright.go:196", after := #[], guard := none }) (v := .int .i64 (j : Int)) rfl (by kernel_rfl) (by kernel_rfl) (by kernel_rfl) (fun _ _ _ h => h) (Or.inl ⟨by kernel_rfl, ?_⟩) hS ?_
                · intro w5 hSw
                  clear hSw hS
                  go_simp
                simp only [Act.put, List.setIfInBounds_toArray, List.set_cons_zero, List.set_cons_succ]
                refine wpAnyH_take (i := 7) (oi := { dst := some 118, op := Go.Op.indexAddr 54 (Go.Operand.tmp 116) (Go.Operand.tmp 117), type := 0, pos := "outright.go:196", after := #[{ on := 5, ground := Go.Ground.data }, { on := 6, ground := Go.Ground.data }], guard := none }) (v := .pointer (some ⟨g7, j, none⟩)) rfl (by kernel_rfl) (by kernel_rfl) (by kernel_rfl) (fun _ _ _ h => h) (Or.inl ⟨by kernel_rfl, ?_⟩) hS ?_
                · intro w5 hSw
                  clear hSw hS
                  go_simp
                simp only [Act.put, List.setIfInBounds_toArray, List.set_cons_zero, List.set_cons_succ]
                refine wpAnyH_take (i := 8) (oi := { dst := some 119, op := Go.Op.load 29 (Go.Operand.tmp 118), type := 29, pos := "outright.go:196", after := #[{ on := 7, ground := Go.Ground.data }], guard := none }) (v := .slice ak kj.length ck) rfl (by kernel_rfl) (by kernel_rfl) (by kernel_rfl) (fun _ _ _ h => h) (Or.inl ⟨by kernel_rfl, ?_⟩) hS ?_
                · intro w5 hSw
                  have h0 := hSw.cell HKx.out
                  clear hSw hS
                  go_simp
                simp only [Act.put, List.setIfInBounds_toArray, List.set_cons_zero, List.set_cons_succ]
                refine wpAnyH_take (i := 9) (oi := { dst := some 120, op := Go.Op.call { callee := Go.Callee.builtin Go.Builtin.len, args := #[Go.Operand.tmp 119], argTypes := #[29] }, type := 3, pos := "outright.go:196", after := #[{ on := 8, ground := Go.Ground.data }], guard := none }) (v := .int .i64 (kj.length : Int)) rfl (by kernel_rfl) (by kernel_rfl) (by kernel_rfl) (fun _ _ _ h => h) (Or.inl ⟨by kernel_rfl, ?_⟩) hS ?_
                · intro w5 hSw
                  clear hSw hS
                  go_simp
                simp only [Act.put, List.setIfInBounds_toArray, List.set_cons_zero, List.set_cons_succ]
                refine wpAnyH_ready (rs := [10]) (by kernel_rfl) (by simp) ?_
                refine AllReadyH.cons (o := { dst := some 121, op := Go.Op.call { callee := Go.Callee.value (Go.Operand.func 7), args := #[Go.Operand.tmp 115, Go.Operand.const (Go.Value.int Go.IntKind.i64 0), Go.Operand.tmp 120], argTypes := #[3, 3, 3] }, type := 3, pos := "outright.go:196", after := #[{ on := 4, ground := Go.Ground.data }, { on := 9, ground := Go.Ground.data }], guard := none }) rfl (fun K hK => ?_) AllReadyH.nil
                rw [if_pos (by kernel_rfl)]
                go_simp
                refine (within_gen xc kj.length (by omega) _).mono ?_
                rintro e w5 ⟨rfl, h9⟩
                obtain rfl := h9.symm
                clear h9
                dsimp only
                refine hK.out _ _ hS (fun hS => ?_)
                clear hK K
                refine wpAnyH_take (i := 11) (oi := { dst := some 16, op := Go.Op.assign (Go.Operand.tmp 121), type := 3, pos := "outright.go:196", after := #[{ on := 10, ground := Go.Ground.data }, { on := 10, ground := Go.Ground.chain }, { on := 0, ground := Go.Ground.phase }, { on := 1, ground := Go.Ground.phase }, { on := 2, ground := Go.Ground.phase }, { on := 3, ground := Go.Ground.phase }, { on := 4, ground := Go.Ground.phase }, { on := 5, ground := Go.Ground.phase }, { on := 6, ground := Go.Ground.phase }, { on := 7, ground := Go.Ground.phase }, { on := 8, ground := Go.Ground.phase }, { on := 9, ground := Go.Ground.phase }, { on := 10, ground := Go.Ground.phase }], guard := none }) (v := .int .i64 (((xc % ((kj.length : Int) + 1)).toNat : Nat) : Int)) rfl (by kernel_rfl) (by kernel_rfl) (by kernel_rfl) (fun _ _ _ h => h) (Or.inl ⟨by kernel_rfl, ?_⟩) hS ?_
                · intro w5 hSw
                  clear hSw hS
                  go_simp
                simp only [Act.put, List.setIfInBounds_toArray, List.set_cons_zero, List.set_cons_succ]
                have HSZ := Hid.of hS
                clear hS
                refine wpAnyH_done (by kernel_rfl) ?_ _
                rw [HLX.out]
                have HSW := HSZ
                clear HSZ HLX HKc
                go_wp2
                refine wp_region_held_drew (S := fun w2 => Up wr w2) (by kernel_rfl) HSW.out.drew (fun hS => ?_)
                refine wpAnyH_take (i := 0) (oi := { dst := some 122, op := Go.Op.move (Go.Operand.tmp 12), type := 52, pos := "outright.go:198", after := #[], guard := none }) (v := .slice (some ⟨b9, o9, none⟩) fs.length c9) rfl (by kernel_rfl) (by kernel_rfl) (by kernel_rfl) (fun _ _ _ h => h) (Or.inl ⟨by kernel_rfl, ?_⟩) hS ?_
                · intro w5 hSw
                  clear hSw hS
                  go_simp
                simp only [Act.put, List.setIfInBounds_toArray, List.set_cons_zero, List.set_cons_succ]
                refine wpAnyH_take (i := 1) (oi := { dst := some 123, op := Go.Op.move (Go.Operand.tmp 15), type := 3, pos := "outright.go:198", after := #[], guard := none }) (v := .int .i64 (j : Int)) rfl (by kernel_rfl) (by kernel_rfl) (by kernel_rfl) (fun _ _ _ h => h) (Or.inl ⟨by kernel_rfl, ?_⟩) hS ?_
                · intro w5 hSw
                  clear hSw hS
                  go_simp
                simp only [Act.put, List.setIfInBounds_toArray, List.set_cons_zero, List.set_cons_succ]
                refine wpAnyH_take (i := 2) (oi := { dst := some 124, op := Go.Op.indexAddr 52 (Go.Operand.tmp 122) (Go.Operand.tmp 123), type := 0, pos := "outright.go:198", after := #[{ on := 0, ground := Go.Ground.data }, { on := 1, ground := Go.Ground.data }], guard := none }) (v := .pointer (some ⟨b9, o9 + j * 2, none⟩)) rfl (by kernel_rfl) (by kernel_rfl) (by kernel_rfl) (fun _ _ _ h => h) (Or.inl ⟨by kernel_rfl, ?_⟩) hS ?_
                · intro w5 hSw
                  clear hSw hS
                  exact exec_idxFile j hjf rfl rfl rfl
                simp only [Act.put, List.setIfInBounds_toArray, List.set_cons_zero, List.set_cons_succ]
                refine wpAnyH_take (i := 3) (oi := { dst := some 125, op := Go.Op.fieldAddr 51 (Go.Operand.tmp 124) 0, type := 0, pos := "outright.go:198", after := #[{ on := 2, ground := Go.Ground.data }], guard := none }) (v := .pointer (some ⟨b9, o9 + j * 2, none⟩)) rfl (by kernel_rfl) (by kernel_rfl) (by kernel_rfl) (fun _ _ _ h => h) (Or.inl ⟨by kernel_rfl, ?_⟩) hS ?_
                · intro w5 hSw
                  clear hSw hS
                  go_simp
                simp only [Act.put, List.setIfInBounds_toArray, List.set_cons_zero, List.set_cons_succ]
                refine wpAnyH_take (i := 4) (oi := { dst := some 126, op := Go.Op.load 9 (Go.Operand.tmp 125), type := 9, pos := "outright.go:198", after := #[{ on := 3, ground := Go.Ground.data }], guard := none }) (v := .string ⟨(ltr j).toArray⟩) rfl (by kernel_rfl) (by kernel_rfl) (by kernel_rfl) (fun _ _ _ h => h) (Or.inl ⟨by kernel_rfl, ?_⟩) hS ?_
                · intro w5 hSw
                  have h0 := hSw.cell HF1.out
                  clear hSw hS
                  go_simp
                simp only [Act.put, List.setIfInBounds_toArray, List.set_cons_zero, List.set_cons_succ]
                refine wpAnyH_take (i := 5) (oi := { dst := some 127, op := Go.Op.move (Go.Operand.tmp 15), type := 3, pos := "outright.go:198", after := #[], guard := none }) (v := .int .i64 (j : Int)) rfl (by kernel_rfl) (by kernel_rfl) (by kernel_rfl) (fun _ _ _ h => h) (Or.inl ⟨by kernel_rfl, ?_⟩) hS ?_
                · intro w5 hSw
                  clear hSw hS
                  go_simp
                simp only [Act.put, List.setIfInBounds_toArray, List.set_cons_zero, List.set_cons_succ]
                refine wpAnyH_ready (rs := [6]) (by kernel_rfl) (by simp) ?_
                refine AllReadyH.cons (o := { dst := some 128, op := Go.Op.call { callee := Go.Callee.value (Go.Operand.func 16), args := #[Go.Operand.tmp 127], argTypes := #[3] }, type := 9, pos := "outright.go:198", after := #[{ on := 5, ground := Go.Ground.data }], guard := none }) rfl (fun K hK => ?_) AllReadyH.nil
                rw [if_pos (by kernel_rfl)]
                go_simp
                refine (letters_walk j (by omega) _).mono ?_
                rintro e w5 ⟨rfl, u5⟩
                dsimp only
                refine hK.out _ _ (hS.trans u5) (fun hS => ?_)
                clear hK K u5
                refine wpAnyH_take (i := 7) (oi := { dst := some 129, op := Go.Op.binOp Go.BinOp.neq 9 (Go.Operand.tmp 126) (Go.Operand.tmp 128) 9, type := 4, pos := "outright.go:198", after := #[{ on := 4, ground := Go.Ground.data }, { on := 6, ground := Go.Ground.data }], guard := none }) (v := .bool false) rfl (by kernel_rfl) (by kernel_rfl) (by kernel_rfl) (fun _ _ _ h => h) (Or.inl ⟨by kernel_rfl, ?_⟩) hS ?_
                · intro w5 hSw
                  clear hSw hS
                  go_simp
                simp only [Act.put, List.setIfInBounds_toArray, List.set_cons_zero, List.set_cons_succ]
                refine wpAnyH_take (i := 8) (oi := { dst := some 130, op := Go.Op.move (Go.Operand.tmp 129), type := 4, pos := "outright.go:198", after := #[{ on := 7, ground := Go.Ground.data }, { on := 6, ground := Go.Ground.chain }], guard := none }) (v := .bool false) rfl (by kernel_rfl) (by kernel_rfl) (by kernel_rfl) (fun _ _ _ h => h) (Or.inl ⟨by kernel_rfl, ?_⟩) hS ?_
                · intro w5 hSw
                  clear hSw hS
                  go_simp
                simp only [Act.put, List.setIfInBounds_toArray, List.set_cons_zero, List.set_cons_succ]
                refine wpAnyH_take (i := 9) (oi := { dst := some 131, op := Go.Op.move (Go.Operand.tmp 12), type := 52, pos := "outright.go:198", after := #[{ on := 8, ground := Go.Ground.guard }], guard := some (8, false) }) (v := .slice (some ⟨b9, o9, none⟩) fs.length c9) rfl (by kernel_rfl) (by kernel_rfl) (by kernel_rfl) (fun _ _ _ h => h) (Or.inl ⟨by kernel_rfl, ?_⟩) hS ?_
                · intro w5 hSw
                  clear hSw hS
                  go_simp
                simp only [Act.put, List.setIfInBounds_toArray, List.set_cons_zero, List.set_cons_succ]
                refine wpAnyH_take (i := 10) (oi := { dst := some 132, op := Go.Op.move (Go.Operand.tmp 15), type := 3, pos := "outright.go:198", after := #[{ on := 8, ground := Go.Ground.guard }], guard := some (8, false) }) (v := .int .i64 (j : Int)) rfl (by kernel_rfl) (by kernel_rfl) (by kernel_rfl) (fun _ _ _ h => h) (Or.inl ⟨by kernel_rfl, ?_⟩) hS ?_
                · intro w5 hSw
                  clear hSw hS
                  go_simp
                simp only [Act.put, List.setIfInBounds_toArray, List.set_cons_zero, List.set_cons_succ]
                refine wpAnyH_take (i := 11) (oi := { dst := some 133, op := Go.Op.indexAddr 52 (Go.Operand.tmp 131) (Go.Operand.tmp 132), type := 0, pos := "outright.go:198", after := #[{ on := 9, ground := Go.Ground.data }, { on := 10, ground := Go.Ground.data }, { on := 8, ground := Go.Ground.guard }], guard := some (8, false) }) (v := .pointer (some ⟨b9, o9 + j * 2, none⟩)) rfl (by kernel_rfl) (by kernel_rfl) (by kernel_rfl) (fun _ _ _ h => h) (Or.inl ⟨by kernel_rfl, ?_⟩) hS ?_
                · intro w5 hSw
                  clear hSw hS
                  exact exec_idxFile j hjf rfl rfl rfl
                simp only [Act.put, List.setIfInBounds_toArray, List.set_cons_zero, List.set_cons_succ]
                refine wpAnyH_take (i := 12) (oi := { dst := some 134, op := Go.Op.fieldAddr 51 (Go.Operand.tmp 133) 1, type := 0, pos := "outright.go:198", after := #[{ on := 11, ground := Go.Ground.data }, { on := 8, ground := Go.Ground.guard }], guard := some (8, false) }) (v := .pointer (some ⟨b9, o9 + j * 2 + 1, none⟩)) rfl (by kernel_rfl) (by kernel_rfl) (by kernel_rfl) (fun _ _ _ h => h) (Or.inl ⟨by kernel_rfl, ?_⟩) hS ?_
                · intro w5 hSw
                  clear hSw hS
                  go_simp
                simp only [Act.put, List.setIfInBounds_toArray, List.set_cons_zero, List.set_cons_succ]
                refine wpAnyH_take (i := 13) (oi := { dst := some 135, op := Go.Op.load 29 (Go.Operand.tmp 134), type := 29, pos := "outright.go:198", after := #[{ on := 12, ground := Go.Ground.data }, { on := 8, ground := Go.Ground.guard }], guard := some (8, false) }) (v := gv) rfl (by kernel_rfl) (by kernel_rfl) (by kernel_rfl) (fun _ _ _ h => h) (Or.inl ⟨by kernel_rfl, ?_⟩) hS ?_
                · intro w5 hSw
                  have h0 := hSw.cell HF2.out
                  clear hSw hS
                  go_simp
                simp only [Act.put, List.setIfInBounds_toArray, List.set_cons_zero, List.set_cons_succ]
                refine wpAnyH_take (i := 14) (oi := { dst := some 136, op := Go.Op.convert 29 9 (Go.Operand.tmp 135), type := 9, pos := "outright.go:198", after := #[{ on := 13, ground := Go.Ground.data }, { on := 8, ground := Go.Ground.guard }], guard := some (8, false) }) (v := .string ⟨kt.toArray⟩) rfl (by kernel_rfl) (by kernel_rfl) (by kernel_rfl) (fun _ _ _ h => h) (Or.inl ⟨by kernel_rfl, ?_⟩) hS ?_
                · intro w5 hSw
                  have h0 := conv_sb2 (HSb1.out.up hSw)
                  clear hSw hS
                  go_simp
                simp only [Act.put, List.setIfInBounds_toArray, List.set_cons_zero, List.set_cons_succ]
                refine wpAnyH_take (i := 15) (oi := { dst := some 137, op := Go.Op.move (Go.Operand.tmp 7), type := 54, pos := "outright.go:198", after := #[{ on := 8, ground := Go.Ground.guard }], guard := some (8, false) }) (v := .slice (some ⟨g7, 0, none⟩) n c7) rfl (by kernel_rfl) (by kernel_rfl) (by kernel_rfl) (fun _ _ _ h => h) (Or.inl ⟨by kernel_rfl, ?_⟩) hS ?_
                · intro w5 hSw
                  clear hSw hS
                  go_simp
                simp only [Act.put, List.setIfInBounds_toArray, List.set_cons_zero, List.set_cons_succ]
                refine wpAnyH_take (i := 16) (oi := { dst := some 138, op := Go.Op.move (Go.Operand.tmp 15), type := 3, pos := "outright.go:198", after := #[{ on := 8, ground := Go.Ground.guard }], guard := some (8, false) }) (v := .int .i64 (j : Int)) rfl (by kernel_rfl) (by kernel_rfl) (by kernel_rfl) (fun _ _ _ h => h) (Or.inl ⟨by kernel_rfl, ?_⟩) hS ?_
                · intro w5 hSw
                  clear hSw hS
                  go_simp
                simp only [Act.put, List.setIfInBounds_toArray, List.set_cons_zero, List.set_cons_succ]
                refine wpAnyH_take (i := 17) (oi := { dst := some 139, op := Go.Op.indexAddr 54 (Go.Operand.tmp 137) (Go.Operand.tmp 138), type := 0, pos := "outright.go:198", after := #[{ on := 15, ground := Go.Ground.data }, { on := 16, ground := Go.Ground.data }, { on := 8, ground := Go.Ground.guard }], guard := some (8, false) }) (v := .pointer (some ⟨g7, j, none⟩)) rfl (by kernel_rfl) (by kernel_rfl) (by kernel_rfl) (fun _ _ _ h => h) (Or.inl ⟨by kernel_rfl, ?_⟩) hS ?_
                · intro w5 hSw
                  clear hSw hS
                  go_simp
                simp only [Act.put, List.setIfInBounds_toArray, List.set_cons_zero, List.set_cons_succ]
                refine wpAnyH_take (i := 18) (oi := { dst := some 140, op := Go.Op.load 29 (Go.Operand.tmp 139), type := 29, pos := "outright.go:198", after := #[{ on := 17, ground := Go.Ground.data }, { on := 8, ground := Go.Ground.guard }], guard := some (8, false) }) (v := .slice ak kj.length ck) rfl (by kernel_rfl) (by kernel_rfl) (by kernel_rfl) (fun _ _ _ h => h) (Or.inl ⟨by kernel_rfl, ?_⟩) hS ?_
                · intro w5 hSw
                  have h0 := hSw.cell HKx.out
                  clear hSw hS
                  go_simp
                simp only [Act.put, List.setIfInBounds_toArray, List.set_cons_zero, List.set_cons_succ]
                refine wpAnyH_take (i := 19) (oi := { dst := some 141, op := Go.Op.move (Go.Operand.tmp 16), type := 3, pos := "outright.go:198", after := #[{ on := 8, ground := Go.Ground.guard }], guard := some (8, false) }) (v := .int .i64 (lg : Int)) rfl (by kernel_rfl) (by kernel_rfl) (by kernel_rfl) (fun _ _ _ h => h) (Or.inl ⟨by kernel_rfl, ?_⟩) hS ?_
                · intro w5 hSw
                  clear hSw hS
                  go_simp
                simp only [Act.put, List.setIfInBounds_toArray, List.set_cons_zero, List.set_cons_succ]
                refine wpAnyH_take (i := 20) (oi := { dst := some 142, op := Go.Op.slice 29 (Go.Operand.tmp 140) none (some (Go.Operand.tmp 141)) none, type := 29, pos := "outright.go:198", after := #[{ on := 18, ground := Go.Ground.data }, { on := 19, ground := Go.Ground.data }, { on := 8, ground := Go.Ground.guard }], guard := some (8, false) }) (v := .slice ak lg ck) rfl (by kernel_rfl) (by kernel_rfl) (by kernel_rfl) (fun _ _ _ h => h) (Or.inl ⟨by kernel_rfl, ?_⟩) hS ?_
                · intro w5 hSw
                  clear hSw hS
                  exact exec_cutSl hlg hck rfl rfl rfl hak
                simp only [Act.put, List.setIfInBounds_toArray, List.set_cons_zero, List.set_cons_succ]
                refine wpAnyH_take (i := 21) (oi := { dst := some 143, op := Go.Op.convert 29 9 (Go.Operand.tmp 142), type := 9, pos := "outright.go:198", after := #[{ on := 20, ground := Go.Ground.data }, { on := 8, ground := Go.Ground.guard }], guard := some (8, false) }) (v := .string ⟨kt.toArray⟩) rfl (by kernel_rfl) (by kernel_rfl) (by kernel_rfl) (fun _ _ _ h => h) (Or.inl ⟨by kernel_rfl, ?_⟩) hS ?_
                · intro w5 hSw
                  have h0 := conv_sb2 (HSb2.out.up hSw)
                  clear hSw hS
                  go_simp
                simp only [Act.put, List.setIfInBounds_toArray, List.set_cons_zero, List.set_cons_succ]
                refine wpAnyH_take (i := 22) (oi := { dst := some 144, op := Go.Op.binOp Go.BinOp.neq 9 (Go.Operand.tmp 136) (Go.Operand.tmp 143) 9, type := 4, pos := "outright.go:198", after := #[{ on := 14, ground := Go.Ground.data }, { on := 21, ground := Go.Ground.data }, { on := 8, ground := Go.Ground.guard }], guard := some (8, false) }) (v := .bool false) rfl (by kernel_rfl) (by kernel_rfl) (by kernel_rfl) (fun _ _ _ h => h) (Or.inl ⟨by kernel_rfl, ?_⟩) hS ?_
                · intro w5 hSw
                  clear hSw hS
                  go_simp
                simp only [Act.put, List.setIfInBounds_toArray, List.set_cons_zero, List.set_cons_succ]
                refine wpAnyH_take (i := 23) (oi := { dst := some 145, op := Go.Op.pick (Go.Operand.tmp 130) (Go.Operand.const (Go.Value.bool true)) (Go.Operand.tmp 144), type := 4, pos := "outright.go:198", after := #[{ on := 8, ground := Go.Ground.data }, { on := 22, ground := Go.Ground.data }], guard := none }) (v := .bool false) rfl (by kernel_rfl) (by kernel_rfl) (by kernel_rfl) (fun _ _ _ h => h) (Or.inl ⟨by kernel_rfl, ?_⟩) hS ?_
                · intro w5 hSw
                  clear hSw hS
                  go_simp
                simp only [Act.put, List.setIfInBounds_toArray, List.set_cons_zero, List.set_cons_succ]
                have HSY := Hid.of hS
                clear hS
                refine wpAnyH_done (by kernel_rfl) ?_ _
                go_wp2
                go_roundw
                all_goals first
                  | exact ⟨j + 1, by go_num, by omega, Hid.of (HU.out.trans HSY.out)⟩
                  | (simp [intOf]; omega)
              · have hc1z : ¬ (j : Int) + 1 < (cs.length : Int) := by omega
                have hlg0 : lg = 0 := by rw [← hlgd]; exact cz_out hc1
                subst hlg0
                have HSW := Hid.of (Up.refl wr)
                clear hlgd
                go_wp2
                refine wp_region_held_drew (S := fun w2 => Up wr w2) (by kernel_rfl) HSW.out.drew (fun hS => ?_)
                refine wpAnyH_take (i := 0) (oi := { dst := some 122, op := Go.Op.move (Go.Operand.tmp 12), type := 52, pos := "outright.go:198", after := #[], guard := none }) (v := .slice (some ⟨b9, o9, none⟩) fs.length c9) rfl (by kernel_rfl) (by kernel_rfl) (by kernel_rfl) (fun _ _ _ h => h) (Or.inl ⟨by kernel_rfl, ?_⟩) hS ?_
                · intro w5 hSw
                  clear hSw hS
                  go_simp
                simp only [Act.put, List.setIfInBounds_toArray, List.set_cons_zero, List.set_cons_succ]
                refine wpAnyH_take (i := 1) (oi := { dst := some 123, op := Go.Op.move (Go.Operand.tmp 15), type := 3, pos := "outright.go:198", after := #[], guard := none }) (v := .int .i64 (j : Int)) rfl (by kernel_rfl) (by kernel_rfl) (by kernel_rfl) (fun _ _ _ h => h) (Or.inl ⟨by kernel_rfl, ?_⟩) hS ?_
                · intro w5 hSw
                  clear hSw hS
                  go_simp
                simp only [Act.put, List.setIfInBounds_toArray, List.set_cons_zero, List.set_cons_succ]
                refine wpAnyH_take (i := 2) (oi := { dst := some 124, op := Go.Op.indexAddr 52 (Go.Operand.tmp 122) (Go.Operand.tmp 123), type := 0, pos := "outright.go:198", after := #[{ on := 0, ground := Go.Ground.data }, { on := 1, ground := Go.Ground.data }], guard := none }) (v := .pointer (some ⟨b9, o9 + j * 2, none⟩)) rfl (by kernel_rfl) (by kernel_rfl) (by kernel_rfl) (fun _ _ _ h => h) (Or.inl ⟨by kernel_rfl, ?_⟩) hS ?_
                · intro w5 hSw
                  clear hSw hS
                  exact exec_idxFile j hjf rfl rfl rfl
                simp only [Act.put, List.setIfInBounds_toArray, List.set_cons_zero, List.set_cons_succ]
                refine wpAnyH_take (i := 3) (oi := { dst := some 125, op := Go.Op.fieldAddr 51 (Go.Operand.tmp 124) 0, type := 0, pos := "outright.go:198", after := #[{ on := 2, ground := Go.Ground.data }], guard := none }) (v := .pointer (some ⟨b9, o9 + j * 2, none⟩)) rfl (by kernel_rfl) (by kernel_rfl) (by kernel_rfl) (fun _ _ _ h => h) (Or.inl ⟨by kernel_rfl, ?_⟩) hS ?_
                · intro w5 hSw
                  clear hSw hS
                  go_simp
                simp only [Act.put, List.setIfInBounds_toArray, List.set_cons_zero, List.set_cons_succ]
                refine wpAnyH_take (i := 4) (oi := { dst := some 126, op := Go.Op.load 9 (Go.Operand.tmp 125), type := 9, pos := "outright.go:198", after := #[{ on := 3, ground := Go.Ground.data }], guard := none }) (v := .string ⟨(ltr j).toArray⟩) rfl (by kernel_rfl) (by kernel_rfl) (by kernel_rfl) (fun _ _ _ h => h) (Or.inl ⟨by kernel_rfl, ?_⟩) hS ?_
                · intro w5 hSw
                  have h0 := hSw.cell HF1.out
                  clear hSw hS
                  go_simp
                simp only [Act.put, List.setIfInBounds_toArray, List.set_cons_zero, List.set_cons_succ]
                refine wpAnyH_take (i := 5) (oi := { dst := some 127, op := Go.Op.move (Go.Operand.tmp 15), type := 3, pos := "outright.go:198", after := #[], guard := none }) (v := .int .i64 (j : Int)) rfl (by kernel_rfl) (by kernel_rfl) (by kernel_rfl) (fun _ _ _ h => h) (Or.inl ⟨by kernel_rfl, ?_⟩) hS ?_
                · intro w5 hSw
                  clear hSw hS
                  go_simp
                simp only [Act.put, List.setIfInBounds_toArray, List.set_cons_zero, List.set_cons_succ]
                refine wpAnyH_ready (rs := [6]) (by kernel_rfl) (by simp) ?_
                refine AllReadyH.cons (o := { dst := some 128, op := Go.Op.call { callee := Go.Callee.value (Go.Operand.func 16), args := #[Go.Operand.tmp 127], argTypes := #[3] }, type := 9, pos := "outright.go:198", after := #[{ on := 5, ground := Go.Ground.data }], guard := none }) rfl (fun K hK => ?_) AllReadyH.nil
                rw [if_pos (by kernel_rfl)]
                go_simp
                refine (letters_walk j (by omega) _).mono ?_
                rintro e w5 ⟨rfl, u5⟩
                dsimp only
                refine hK.out _ _ (hS.trans u5) (fun hS => ?_)
                clear hK K u5
                refine wpAnyH_take (i := 7) (oi := { dst := some 129, op := Go.Op.binOp Go.BinOp.neq 9 (Go.Operand.tmp 126) (Go.Operand.tmp 128) 9, type := 4, pos := "outright.go:198", after := #[{ on := 4, ground := Go.Ground.data }, { on := 6, ground := Go.Ground.data }], guard := none }) (v := .bool false) rfl (by kernel_rfl) (by kernel_rfl) (by kernel_rfl) (fun _ _ _ h => h) (Or.inl ⟨by kernel_rfl, ?_⟩) hS ?_
                · intro w5 hSw
                  clear hSw hS
                  go_simp
                simp only [Act.put, List.setIfInBounds_toArray, List.set_cons_zero, List.set_cons_succ]
                refine wpAnyH_take (i := 8) (oi := { dst := some 130, op := Go.Op.move (Go.Operand.tmp 129), type := 4, pos := "outright.go:198", after := #[{ on := 7, ground := Go.Ground.data }, { on := 6, ground := Go.Ground.chain }], guard := none }) (v := .bool false) rfl (by kernel_rfl) (by kernel_rfl) (by kernel_rfl) (fun _ _ _ h => h) (Or.inl ⟨by kernel_rfl, ?_⟩) hS ?_
                · intro w5 hSw
                  clear hSw hS
                  go_simp
                simp only [Act.put, List.setIfInBounds_toArray, List.set_cons_zero, List.set_cons_succ]
                refine wpAnyH_take (i := 9) (oi := { dst := some 131, op := Go.Op.move (Go.Operand.tmp 12), type := 52, pos := "outright.go:198", after := #[{ on := 8, ground := Go.Ground.guard }], guard := some (8, false) }) (v := .slice (some ⟨b9, o9, none⟩) fs.length c9) rfl (by kernel_rfl) (by kernel_rfl) (by kernel_rfl) (fun _ _ _ h => h) (Or.inl ⟨by kernel_rfl, ?_⟩) hS ?_
                · intro w5 hSw
                  clear hSw hS
                  go_simp
                simp only [Act.put, List.setIfInBounds_toArray, List.set_cons_zero, List.set_cons_succ]
                refine wpAnyH_take (i := 10) (oi := { dst := some 132, op := Go.Op.move (Go.Operand.tmp 15), type := 3, pos := "outright.go:198", after := #[{ on := 8, ground := Go.Ground.guard }], guard := some (8, false) }) (v := .int .i64 (j : Int)) rfl (by kernel_rfl) (by kernel_rfl) (by kernel_rfl) (fun _ _ _ h => h) (Or.inl ⟨by kernel_rfl, ?_⟩) hS ?_
                · intro w5 hSw
                  clear hSw hS
                  go_simp
                simp only [Act.put, List.setIfInBounds_toArray, List.set_cons_zero, List.set_cons_succ]
                refine wpAnyH_take (i := 11) (oi := { dst := some 133, op := Go.Op.indexAddr 52 (Go.Operand.tmp 131) (Go.Operand.tmp 132), type := 0, pos := "outright.go:198", after := #[{ on := 9, ground := Go.Ground.data }, { on := 10, ground := Go.Ground.data }, { on := 8, ground := Go.Ground.guard }], guard := some (8, false) }) (v := .pointer (some ⟨b9, o9 + j * 2, none⟩)) rfl (by kernel_rfl) (by kernel_rfl) (by kernel_rfl) (fun _ _ _ h => h) (Or.inl ⟨by kernel_rfl, ?_⟩) hS ?_
                · intro w5 hSw
                  clear hSw hS
                  exact exec_idxFile j hjf rfl rfl rfl
                simp only [Act.put, List.setIfInBounds_toArray, List.set_cons_zero, List.set_cons_succ]
                refine wpAnyH_take (i := 12) (oi := { dst := some 134, op := Go.Op.fieldAddr 51 (Go.Operand.tmp 133) 1, type := 0, pos := "outright.go:198", after := #[{ on := 11, ground := Go.Ground.data }, { on := 8, ground := Go.Ground.guard }], guard := some (8, false) }) (v := .pointer (some ⟨b9, o9 + j * 2 + 1, none⟩)) rfl (by kernel_rfl) (by kernel_rfl) (by kernel_rfl) (fun _ _ _ h => h) (Or.inl ⟨by kernel_rfl, ?_⟩) hS ?_
                · intro w5 hSw
                  clear hSw hS
                  go_simp
                simp only [Act.put, List.setIfInBounds_toArray, List.set_cons_zero, List.set_cons_succ]
                refine wpAnyH_take (i := 13) (oi := { dst := some 135, op := Go.Op.load 29 (Go.Operand.tmp 134), type := 29, pos := "outright.go:198", after := #[{ on := 12, ground := Go.Ground.data }, { on := 8, ground := Go.Ground.guard }], guard := some (8, false) }) (v := gv) rfl (by kernel_rfl) (by kernel_rfl) (by kernel_rfl) (fun _ _ _ h => h) (Or.inl ⟨by kernel_rfl, ?_⟩) hS ?_
                · intro w5 hSw
                  have h0 := hSw.cell HF2.out
                  clear hSw hS
                  go_simp
                simp only [Act.put, List.setIfInBounds_toArray, List.set_cons_zero, List.set_cons_succ]
                refine wpAnyH_take (i := 14) (oi := { dst := some 136, op := Go.Op.convert 29 9 (Go.Operand.tmp 135), type := 9, pos := "outright.go:198", after := #[{ on := 13, ground := Go.Ground.data }, { on := 8, ground := Go.Ground.guard }], guard := some (8, false) }) (v := .string ⟨kt.toArray⟩) rfl (by kernel_rfl) (by kernel_rfl) (by kernel_rfl) (fun _ _ _ h => h) (Or.inl ⟨by kernel_rfl, ?_⟩) hS ?_
                · intro w5 hSw
                  have h0 := conv_sb2 (HSb1.out.up hSw)
                  clear hSw hS
                  go_simp
                simp only [Act.put, List.setIfInBounds_toArray, List.set_cons_zero, List.set_cons_succ]
                refine wpAnyH_take (i := 15) (oi := { dst := some 137, op := Go.Op.move (Go.Operand.tmp 7), type := 54, pos := "outright.go:198", after := #[{ on := 8, ground := Go.Ground.guard }], guard := some (8, false) }) (v := .slice (some ⟨g7, 0, none⟩) n c7) rfl (by kernel_rfl) (by kernel_rfl) (by kernel_rfl) (fun _ _ _ h => h) (Or.inl ⟨by kernel_rfl, ?_⟩) hS ?_
                · intro w5 hSw
                  clear hSw hS
                  go_simp
                simp only [Act.put, List.setIfInBounds_toArray, List.set_cons_zero, List.set_cons_succ]
                refine wpAnyH_take (i := 16) (oi := { dst := some 138, op := Go.Op.move (Go.Operand.tmp 15), type := 3, pos := "outright.go:198", after := #[{ on := 8, ground := Go.Ground.guard }], guard := some (8, false) }) (v := .int .i64 (j : Int)) rfl (by kernel_rfl) (by kernel_rfl) (by kernel_rfl) (fun _ _ _ h => h) (Or.inl ⟨by kernel_rfl, ?_⟩) hS ?_
                · intro w5 hSw
                  clear hSw hS
                  go_simp
                simp only [Act.put, List.setIfInBounds_toArray, List.set_cons_zero, List.set_cons_succ]
                refine wpAnyH_take (i := 17) (oi := { dst := some 139, op := Go.Op.indexAddr 54 (Go.Operand.tmp 137) (Go.Operand.tmp 138), type := 0, pos := "outright.go:198", after := #[{ on := 15, ground := Go.Ground.data }, { on := 16, ground := Go.Ground.data }, { on := 8, ground := Go.Ground.guard }], guard := some (8, false) }) (v := .pointer (some ⟨g7, j, none⟩)) rfl (by kernel_rfl) (by kernel_rfl) (by kernel_rfl) (fun _ _ _ h => h) (Or.inl ⟨by kernel_rfl, ?_⟩) hS ?_
                · intro w5 hSw
                  clear hSw hS
                  go_simp
                simp only [Act.put, List.setIfInBounds_toArray, List.set_cons_zero, List.set_cons_succ]
                refine wpAnyH_take (i := 18) (oi := { dst := some 140, op := Go.Op.load 29 (Go.Operand.tmp 139), type := 29, pos := "outright.go:198", after := #[{ on := 17, ground := Go.Ground.data }, { on := 8, ground := Go.Ground.guard }], guard := some (8, false) }) (v := .slice ak kj.length ck) rfl (by kernel_rfl) (by kernel_rfl) (by kernel_rfl) (fun _ _ _ h => h) (Or.inl ⟨by kernel_rfl, ?_⟩) hS ?_
                · intro w5 hSw
                  have h0 := hSw.cell HKx.out
                  clear hSw hS
                  go_simp
                simp only [Act.put, List.setIfInBounds_toArray, List.set_cons_zero, List.set_cons_succ]
                refine wpAnyH_take (i := 19) (oi := { dst := some 141, op := Go.Op.move (Go.Operand.tmp 16), type := 3, pos := "outright.go:198", after := #[{ on := 8, ground := Go.Ground.guard }], guard := some (8, false) }) (v := .int .i64 0) rfl (by kernel_rfl) (by kernel_rfl) (by kernel_rfl) (fun _ _ _ h => h) (Or.inl ⟨by kernel_rfl, ?_⟩) hS ?_
                · intro w5 hSw
                  clear hSw hS
                  go_simp
                simp only [Act.put, List.setIfInBounds_toArray, List.set_cons_zero, List.set_cons_succ]
                refine wpAnyH_take (i := 20) (oi := { dst := some 142, op := Go.Op.slice 29 (Go.Operand.tmp 140) none (some (Go.Operand.tmp 141)) none, type := 29, pos := "outright.go:198", after := #[{ on := 18, ground := Go.Ground.data }, { on := 19, ground := Go.Ground.data }, { on := 8, ground := Go.Ground.guard }], guard := some (8, false) }) (v := .slice ak 0 ck) rfl (by kernel_rfl) (by kernel_rfl) (by kernel_rfl) (fun _ _ _ h => h) (Or.inl ⟨by kernel_rfl, ?_⟩) hS ?_
                · intro w5 hSw
                  clear hSw hS
                  exact exec_cutSl hlg hck rfl rfl rfl hak
                simp only [Act.put, List.setIfInBounds_toArray, List.set_cons_zero, List.set_cons_succ]
                refine wpAnyH_take (i := 21) (oi := { dst := some 143, op := Go.Op.convert 29 9 (Go.Operand.tmp 142), type := 9, pos := "outright.go:198", after := #[{ on := 20, ground := Go.Ground.data }, { on := 8, ground := Go.Ground.guard }], guard := some (8, false) }) (v := .string ⟨kt.toArray⟩) rfl (by kernel_rfl) (by kernel_rfl) (by kernel_rfl) (fun _ _ _ h => h) (Or.inl ⟨by kernel_rfl, ?_⟩) hS ?_
                · intro w5 hSw
                  have h0 := conv_sb2 (HSb2.out.up hSw)
                  clear hSw hS
                  go_simp
                simp only [Act.put, List.setIfInBounds_toArray, List.set_cons_zero, List.set_cons_succ]
                refine wpAnyH_take (i := 22) (oi := { dst := some 144, op := Go.Op.binOp Go.BinOp.neq 9 (Go.Operand.tmp 136) (Go.Operand.tmp 143) 9, type := 4, pos := "outright.go:198", after := #[{ on := 14, ground := Go.Ground.data }, { on := 21, ground := Go.Ground.data }, { on := 8, ground := Go.Ground.guard }], guard := some (8, false) }) (v := .bool false) rfl (by kernel_rfl) (by kernel_rfl) (by kernel_rfl) (fun _ _ _ h => h) (Or.inl ⟨by kernel_rfl, ?_⟩) hS ?_
                · intro w5 hSw
                  clear hSw hS
                  go_simp
                simp only [Act.put, List.setIfInBounds_toArray, List.set_cons_zero, List.set_cons_succ]
                refine wpAnyH_take (i := 23) (oi := { dst := some 145, op := Go.Op.pick (Go.Operand.tmp 130) (Go.Operand.const (Go.Value.bool true)) (Go.Operand.tmp 144), type := 4, pos := "outright.go:198", after := #[{ on := 8, ground := Go.Ground.data }, { on := 22, ground := Go.Ground.data }], guard := none }) (v := .bool false) rfl (by kernel_rfl) (by kernel_rfl) (by kernel_rfl) (fun _ _ _ h => h) (Or.inl ⟨by kernel_rfl, ?_⟩) hS ?_
                · intro w5 hSw
                  clear hSw hS
                  go_simp
                simp only [Act.put, List.setIfInBounds_toArray, List.set_cons_zero, List.set_cons_succ]
                have HSY := Hid.of hS
                clear hS
                refine wpAnyH_done (by kernel_rfl) ?_ _
                go_wp2
                go_roundw
                all_goals first
                  | exact ⟨j + 1, by go_num, by omega, Hid.of (HU.out.trans HSY.out)⟩
                  | (simp [intOf]; omega)
            · have hjz : ¬ (j : Int) < (fs.length : Int) := by omega
              go_wp2
              go_ret
              exact ⟨rfl, HUw.out.trans HU.out⟩
        · have hc0z : ¬ (0 : Int) < (cs.length : Int) := by omega
          have hfl0 : fs.length = 0 := by rw [HFo.out.1, cz_out hc0]
          obtain rfl := List.eq_nil_of_length_eq_zero hfl0
          clear HFo HFs HK9 hfl0
          go_wp2
          go_loopw [15] (fun v15 wr => v15 = .int .i64 0 ∧ Hid (Up w9 wr)) (fun _ _ => 0)
          case atStart => exact ⟨rfl, Hid.of (Up.refl _)⟩
          case round =>
            obtain ⟨rfl, hU⟩ := hrel
            go_wp2
            go_ret
            exact ⟨rfl, HUw.out.trans hU.out⟩
end Go.Proofs.YtepakbghhnkcfaaDoor
