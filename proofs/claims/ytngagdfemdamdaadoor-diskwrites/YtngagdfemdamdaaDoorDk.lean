import Derived.Test.YtngagdfemdamdaaDoorDj
namespace Go.Proofs.YtngagdfemdamdaaDoor
open Go.RowKit Go.Shelf TextNum ModNum
set_option maxRecDepth 100000 in
set_option maxHeartbeats 4000000 in
theorem settle_walk (B D M F T : Nat) (s : DS) (w : World) (hI : Inv w B D M F T s) :
    Calls Tryd.prog 38 #[.pointer (some ⟨D, 0, none⟩), .pointer (some ⟨F, 0, none⟩)] w fun e w' => e = .returned (.tuple #[]) ∧ ∃ s', Inv w' B D M F T s' ∧ s'.nb = s.nb ∧ s'.trn = s.trn ∧ s'.acts = s.acts ∧ Nx w s s' ∧ Fr (Sd D F s) w w' := by
  have HI := Hid.of hI
  have hnum := hI.num
  obtain ⟨ao, co, hvo⟩ : ∃ ao co, s.vo = .slice ao s.lo.length co := by
    rcases hI.loose.2 with ⟨h, h0⟩ | ⟨g, cap, cur, h, _⟩
    · exact ⟨none, 0, by rw [h, h0]⟩
    · exact ⟨_, cap, h⟩
  have hf := hI.file
  rw [hvo] at hf
  have c2 := hf.cell (i := 2) rfl
  clear hf hI
  go_enter Tryd.func38, Tryd.ntmps38
  go_wp2
  go_loopw [5, 11] (fun _ v11 wr => ∃ i : Nat, v11 = .int .i64 (i : Int) ∧ i ≤ s.lo.length ∧ Hid (∃ v lb, Inv wr B D M F T { s with vl := v, lb := lb } ∧ Frs w s.vl v ∧ Fr (Sd D F s) w wr)) (fun _ v11 _ => s.lo.length - (intOf v11).toNat)
  case atStart => exact ⟨0, rfl, by omega, Hid.of ⟨s.vl, s.lb, HI.out, Frs.refl _ _, Fr.refl _ _⟩⟩
  case round =>
    obtain ⟨i, rfl, hi, hR⟩ := hrel
    by_cases hlt : i < s.lo.length
    · have hltz : (i : Int) < (s.lo.length : Int) := by omega
      obtain ⟨v, lb, hIr, hFs, hFr⟩ := hR.out
      have HIr := Hid.of hIr
      have HFs := Hid.of hFs
      have HFr := Hid.of hFr
      obtain ⟨g, c, e1, hcl, d0, d1, d2⟩ := loose_cells hIr.loose hlt
      rw [show (({ s with vl := v, lb := lb } : DS)).vo = s.vo from rfl, hvo] at e1
      injection e1 with e1 e2 e3
      subst e1 e3
      obtain ⟨l, hl⟩ : ∃ l, s.lo[i] = l := ⟨_, rfl⟩
      have HLm := Hid.of (show l ∈ s.lo from hl ▸ List.getElem_mem hlt)
      rw [show (({ s with vl := v, lb := lb } : DS)).lo[i] = l from hl] at d0 d1 d2
      have hcz : (s.lo.length : Int) ≤ (co : Int) := by have h5 : s.lo.length ≤ co := hcl; omega
      rw [Nat.mul_comm 3 i] at d0 d1 d2
      clear hR hIr hFs hFr hcl hl
      go_wp2_with fail
      have HAw := Hid.of (at_new wr 100 (lwc l.tn l.ds.length l.ba l.bk))
      have HUw := Hid.of ((Up.refl wr).alloc (.cells (lwc l.tn l.ds.length l.ba l.bk).toArray 100))
      have hWw : wr.alloc (.cells (lwc l.tn l.ds.length l.ba l.bk).toArray 100) = wr.alloc (.cells #[.int .i64 l.tn, .int .i64 (l.ds.length : Int), .func (.func 56) #[] #[.pointer (some ⟨l.ba, 0, none⟩), .pointer (some ⟨l.bk, 0, none⟩)]] 100) := rfl
      rw [hWw] at HAw HUw
      clear hWw d0 d1 d2
      generalize wr.alloc (.cells #[.int .i64 l.tn, .int .i64 (l.ds.length : Int), .func (.func 56) #[] #[.pointer (some ⟨l.ba, 0, none⟩), .pointer (some ⟨l.bk, 0, none⟩)]] 100) = W3 at *
      have HI3 := Hid.of (HIr.out.up HUw.out)
      have hlast : Ow W3 B v lb := HI3.out.last
      obtain ⟨av, cv, rfl, _⟩ := Ow.sb hlast
      have HE := Hid.of (HI3.out.each l HLm.out)
      have hlbl : lb.length ≤ 4000 := HI3.out.lbl
      have hlen := HE.out.len
      have HC := Hid.of (write1_walk B (.slice av lb.length cv) l.vk lb l.ds l.p l.ba l.bk W3.drew hlast (Ow.sb HE.out.own) (by
        cases hq : l.vk.ownBlock with
        | none => exact .inl rfl
        | some k => exact .inr (fun e => (HE.out.ap k hq).2 e.symm)) (HE.out.pa.cell (i := 0) rfl) (HE.out.pk.cell (i := 0) rfl) (by omega) (by omega) (by omega) HI3.out.hB)
      have HNF := Hid.of (own_ne hlast HI3.out.file (by decide))
      have cF := HI3.out.file.cell (i := 1) rfl
      have cw1 := HAw.out.cell (i := 1) rfl
      have cw2 := HAw.out.cell (i := 2) rfl
      clear hlast
      go_wp2
      apply wp_som (fun x c u => Ow u B (.slice x (Go.Proofs.YtngagdfemdamdaaDoor.wr lb l.p l.ds).length c) (Go.Proofs.YtngagdfemdamdaaDoor.wr lb l.p l.ds) ∧ W3.grownBy u (Value.slice av lb.length cv).ownBlock ∧ Frs W3 (.slice av lb.length cv) (.slice x (Go.Proofs.YtngagdfemdamdaaDoor.wr lb l.p l.ds).length c))
      case h =>
        go_region_with (go_at_call 56; refine HC.out.mono ?_; rintro e w6 ⟨v6, rfl, o6, g6, f6⟩; obtain ⟨a6, c6, hv6, _⟩ := Ow.sb o6; subst hv6; have hF6 := HI3.out.file.by (grownBy_undrew g6) HNF.out; have cF6 := hF6.cell (i := 1) rfl; have tF6 := hF6.thaw 1; have HR6 := Hid.of (And.intro o6 (And.intro (grownBy_undrew g6) f6)); clear o6 g6 f6 hF6)
        all_goals exact ⟨_, _, _, HR6.out, rfl, rfl⟩
      intro a6 c6 w6 hR6
      have hLa := HI3.out.lasted HLm.out hR6.1 hR6.2.1 hR6.2.2
      have HRel := Hid.of (And.intro hLa.1 (And.intro (show Frs w s.vl (.slice a6 (Go.Proofs.YtngagdfemdamdaaDoor.wr lb l.p l.ds).length c6) from fun k hk => by
          rcases hR6.2.2 k hk with h | h
          · exact HFs.out k h
          · exact .inr (Nat.le_trans HFr.out.size (Nat.le_trans HUw.out.size h))) (show Fr (Sd D F s) w (w6.setCell ⟨F, 1, none⟩ (.slice a6 (Go.Proofs.YtngagdfemdamdaaDoor.wr lb l.p l.ds).length c6)) from (HFr.out.up HUw.out).trans hLa.2 (fun k hk => by
          rcases hk with hk | hk | hk | hk | hk
          · exact .inl (.inl hk)
          · exact .inl (.inr (.inl hk))
          · exact .inl (.inr (.inr (.inl hk)))
          · rcases HFs.out k hk with h | h
            · exact .inl (.inr (.inr (.inr (.inl h))))
            · exact .inr h
          · exact .inl (.inr (.inr (.inr (.inr hk))))))))
      clear hR6 hLa HC cF cw1 cw2 HNF HE
      generalize w6.setCell ⟨F, 1, none⟩ (.slice a6 (Go.Proofs.YtngagdfemdamdaaDoor.wr lb l.p l.ds).length c6) = W7 at *
      go_wp2
      go_roundw
      case rel => exact ⟨i + 1, by go_num, by omega, Hid.of ⟨_, _, HRel.out.1, HRel.out.2.1, HRel.out.2.2⟩⟩
      case measure => simp [intOf]; omega
    · have hltz : ¬ (i : Int) < (s.lo.length : Int) := by omega
      obtain ⟨v, lb, hIr, hFs, hFr⟩ := hR.out
      have HIr := Hid.of hIr
      have HFs := Hid.of hFs
      have HFr := Hid.of hFr
      have hf := hIr.file
      rw [show (({ s with vl := v, lb := lb } : DS)).vo = s.vo from rfl, hvo] at hf
      have e2 := hf.cell (i := 2) rfl
      have HFile := Hid.of hf
      have e7 := hIr.disk.cell (i := 7) rfl
      have t7 := hIr.disk.thaw 7
      have hFD := Hid.of (hIr.disk.ne hf (by decide))
      clear hR hIr hFs hFr hf
      go_wp2
      apply wp_once
      case h =>
        go_region
        all_goals exact ⟨rfl, rfl⟩
      have HS := Hid.of HIr.out.settled
      have f2 := (HFile.out.by (grown_up (grown_at wr D 7 (.int .i64 0)) (Up.refl _).drew) (fun e => hFD.out (Option.some.inj e)))
      have c22 := f2.cell (i := 2) rfl
      have t22 := f2.thaw 2
      clear f2 e2 e7 t7
      go_wp2
      go_end0
      refine ⟨rfl, _, HS.out.1, rfl, rfl, rfl, ⟨Frs.refl _ _, HFs.out, fun l hl => (by cases hl), rfl⟩, HFr.out.trans HS.out.2 (fun k hk => ?_)⟩
      rcases hk with hk | hk | hk | hk | hk
      · exact .inl (.inl hk)
      · exact .inl (.inr (.inl hk))
      · exact .inl (.inr (.inr (.inl hk)))
      · rcases HFs.out k hk with h | h
        · exact .inl (.inr (.inr (.inr (.inl h))))
        · exact .inr h
      · exact .inl (.inr (.inr (.inr (.inr hk))))
set_option maxRecDepth 100000 in
set_option maxHeartbeats 1000000 in
theorem Sync1_walk (b1 b2 D F : Nat) (w : World) (Post : World → Prop) (h1 : At w b1 24 [.pointer (some ⟨D, 0, none⟩)]) (h2 : At w b2 66 [.pointer (some ⟨F, 0, none⟩)])
    (H : Calls Tryd.prog 38 #[.pointer (some ⟨D, 0, none⟩), .pointer (some ⟨F, 0, none⟩)] w fun e w' => e = .returned (.tuple #[]) ∧ Post w') :
    Calls Tryd.prog 37 #[.pointer (some ⟨b1, 0, none⟩), .pointer (some ⟨b2, 0, none⟩)] w fun e w' => e = .returned (.tuple #[]) ∧ Post w' := by
  have c1 := h1.cell (i := 0) rfl
  have c2 := h2.cell (i := 0) rfl
  have HC := Hid.of H
  clear h1 h2 H
  go_enter Tryd.func37, Tryd.ntmps37
  go_wp2_with fail
  refine HC.out.mono ?_
  rintro e w1 ⟨rfl, hP⟩
  have HP := Hid.of hP
  clear hP
  dsimp only
  go_wp2
  go_end0
  exact ⟨rfl, HP.out⟩
set_option maxRecDepth 100000 in
set_option maxHeartbeats 2000000 in
theorem Sync_walk (B D M F T : Nat) (s : DS) (w : World) (hI : Inv w B D M F T s) (hT : T + 1 ≤ 100000) :
    Calls Tryd.prog 12 #[.pointer (some ⟨D, 0, none⟩), .string ⟨#[102]⟩] w fun e w' => e = .returned (.int .i64 0) ∧ ∃ s', Inv w' B D M F (T + 1) s' ∧ s'.nb = s.nb ∧ Nx w s s' ∧ Fr (Sd D F s) w w' := by
  have HI := Hid.of hI
  have HNum := Hid.of hI.num
  have HA1 := Hid.of (at_new w 24 [.pointer (some ⟨D, 0, none⟩)])
  have HUa := Hid.of ((Up.refl w).alloc (.cells [.pointer (some ⟨D, 0, none⟩)].toArray 24))
  clear hI
  go_enter Tryd.func12, Tryd.ntmps12
  go_wp2_with fail
  generalize hWa : w.alloc (.cells [.pointer (some ⟨D, 0, none⟩)].toArray 24) = Wa at *
  have HIa := Hid.of (HI.out.up HUa.out)
  refine (find_walk D M F 1 _ _ _ _ _ _ _ _ _ _ _ Wa HIa.out.ml HIa.out.disk HIa.out.map).mono ?_
  rintro e w2 ⟨rfl, u2⟩
  have HU2 := Hid.of (HUa.out.trans u2)
  have HA1b := Hid.of (HA1.out.up u2)
  clear u2 HA1 HUa HIa hWa
  dsimp only
  have HA4 := Hid.of (at_new w2 66 [.pointer (some ⟨F, 0, none⟩)])
  have HU23 := Hid.of ((Up.refl w2).alloc (.cells [.pointer (some ⟨F, 0, none⟩)].toArray 66))
  have hw2 : (w2.alloc (.cells [.pointer (some ⟨F, 0, none⟩)].toArray 66)) = (w2.alloc (.cells #[.pointer (some ⟨F, 0, none⟩)] 66)) := rfl
  have HB1 := Hid.of (HA1b.out.up HU23.out)
  rw [hw2] at HA4 HU23 HB1
  have c1 := HB1.out.cell (i := 0) rfl
  go_wp2_with fail
  generalize w2.alloc (.cells #[.pointer (some ⟨F, 0, none⟩)] 66) = W3 at *
  generalize w2.heap.size = bf at *
  have HU3 := Hid.of (HU2.out.trans HU23.out)
  have HI3 := Hid.of (HI.out.up HU3.out)
  have HAct := Hid.of (act_Sync1 D s.room s.nb.length s.lo.length s.trn s.acts (.map (some M)) s.vL s.vC (.slice none 0 0) (.int .i64 0) (.pointer (some ⟨w.heap.size, 0, none⟩)) (.pointer (some ⟨bf, 0, none⟩)) W3 HI3.out.disk (by have := HNum.out; omega) (by have := HNum.out; omega)
    (fun w9 => ∃ s', Inv w9 B D M F (T + 1) s' ∧ s'.nb = s.nb ∧ Nx w s s' ∧ Fr (Sd D F s) w w9) (fun w1 hd1 g1 => by
      have I1 : Inv w1 B D M F (T + 1) { s with acts := s.acts + 1 } := HI3.out.disked (s' := { s with acts := s.acts + 1 }) g1 hd1 rfl rfl rfl rfl rfl rfl rfl (by have := HNum.out; simp only; omega)
      have fr1 : Fr (Sd D F s) w w1 := ((Fr.refl (Sd D F s) w).up HU3.out).by g1 (fun g hg => .inl (.inl (Option.some.inj hg).symm))
      refine Sync1_walk w.heap.size bf D F w1 _ (HB1.out.by g1 (fun e => HI3.out.disk.ne HB1.out (by decide) (Option.some.inj e))) (HA4.out.by g1 (fun e => HI3.out.disk.ne HA4.out (by decide) (Option.some.inj e))) ?_
      refine (settle_walk B D M F (T + 1) _ w1 I1).mono ?_
      rintro e w9 ⟨rfl, s', i9, e1, _, _, n9, f9⟩
      refine ⟨rfl, s', i9, e1, ⟨fun g hg => ?_, fun g hg => ?_, fun l hl => ?_, n9.room⟩, fr1.trans f9 (fun g hg => .inl hg)⟩
      · rcases n9.vn g hg with h | h
        · exact .inl h
        · exact .inr (Nat.le_trans fr1.size h)
      · rcases n9.vl g hg with h | h
        · exact .inl h
        · exact .inr (Nat.le_trans fr1.size h)
      · rcases n9.lo l hl with h | h
        · exact .inl h
        · exact .inr (fun g hg => Nat.le_trans fr1.size (h g hg))))
  clear HI HI3 HA4 HB1 HA1b HU23 hw2
  refine HAct.out.mono ?_
  rintro e w9 ⟨rfl, hP⟩
  have HP := Hid.of hP
  clear hP HAct
  dsimp only
  go_wp2
  go_ret
  exact ⟨rfl, HP.out⟩
set_option maxRecDepth 100000 in
set_option maxHeartbeats 1000000 in
theorem Read_walk (B D M F T : Nat) (s : DS) (w : World) (hI : Inv w B D M F T s) :
    Calls Tryd.prog 13 #[.pointer (some ⟨D, 0, none⟩), .string ⟨#[102]⟩] w fun e w' => ∃ v, e = .returned (.tuple #[v, .int .i64 0]) ∧ Ow w' w.heap.size v s.nb ∧ Up w w' := by
  have HI := Hid.of hI
  have c2 := hI.disk.cell (i := 2) rfl
  clear hI
  go_enter Tryd.func13, Tryd.ntmps13
  go_wp2_with fail
  refine (find_walk D M F 1 _ _ _ _ _ _ _ _ _ _ _ w HI.out.ml HI.out.disk HI.out.map).mono ?_
  rintro e w2 ⟨rfl, u2⟩
  have HU2 := Hid.of u2
  have HI2 := Hid.of (HI.out.up u2)
  clear u2 HI
  dsimp only
  have c0 := HI2.out.file.cell (i := 0) rfl
  go_wp2_with fail
  refine (Clone_walk s.vn s.nb w2 (Ow.sb HI2.out.now) (by have := HI2.out.nbl; have := HI2.out.room; omega)).mono ?_
  rintro e w3 ⟨v3, rfl, o3, u3⟩
  have HO3 := Hid.of (ow_base o3 HU2.out.size)
  have HU3 := Hid.of (HU2.out.trans u3)
  clear o3 u3 c2 c0
  dsimp only
  go_wp2
  go_ret2
  exact ⟨_, rfl, HO3.out, HU3.out⟩
set_option maxRecDepth 100000 in
theorem Used_walk (B D M F T : Nat) (s : DS) (w : World) (hI : Inv w B D M F T s) :
    Calls Tryd.prog 14 #[.pointer (some ⟨D, 0, none⟩)] w fun e w' => e = .returned (.int .i64 (s.nb.length : Int)) ∧ w' = w := by
  have c2 := hI.disk.cell (i := 2) rfl
  have c1 := hI.disk.cell (i := 1) rfl
  clear hI
  go_enter Tryd.func14, Tryd.ntmps14
  go_wp2
  go_ret
  exact ⟨rfl, rfl⟩
end Go.Proofs.YtngagdfemdamdaaDoor
