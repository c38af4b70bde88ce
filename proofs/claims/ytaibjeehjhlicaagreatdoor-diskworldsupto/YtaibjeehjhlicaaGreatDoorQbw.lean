import Derived.Test.YtaibjeehjhlicaaGreatDoorQbv
namespace Go.Proofs.YtaibjeehjhlicaaGreatDoor
open Go.RowKit Go.Shelf TextNum ModNum
/-- a script, its steps' bytes too -/
structure SCR (w : World) (a : Option Addr) (os : List OP) (c : Nat) : Prop where
  sl : OpSl w a os c
  dat : ∀ o ∈ os, ∃ ds, Sb w o.v6 ds ∧ ds.length ≤ 140737488355328 ∧ o.at_ ≤ 9223372036854775807
/-- a disk on which a script's acts were played -/
structure BG (W w : World) (D T K : Nat) (s : DD) : Prop where
  bj : BJ W w D T K s
  live : s.dead = false
  unt : s.unt ≤ 9223372036854775807
  flt : s.flt ≠ 125
  room : s.room = 1099511627776
theorem BG.upTo {W w w' : World} {D T K : Nat} {s : DD} (h : BG W w D T K s) (u : Up w w') : BG W w' D T K s := ⟨h.bj.upTo u, h.live, h.unt, h.flt, h.room⟩
theorem BG.fau {W w : World} {D T K : Nat} {s : DD} (h : BG W w D T K s) : fau s ≠ 125 := by
  unfold Go.Proofs.YtaibjeehjhlicaaGreatDoor.fau
  split
  · exact h.flt
  · decide
theorem BJ.more {W w : World} {D T T' K K' : Nat} {s : DD} (h : BJ W w D T K s) (hT : T ≤ T') (hT' : T' ≤ 100000) (hK : K ≤ K') : BJ W w D T' K' s := ⟨h.ok.more hT hT', h.up, h.lo, h.iv.mono hK⟩
theorem BG.more {W w : World} {D T T' K K' : Nat} {s : DD} (h : BG W w D T K s) (hT : T ≤ T') (hT' : T' ≤ 100000) (hK : K ≤ K') : BG W w D T' K' s := ⟨h.bj.more hT hT' hK, h.live, h.unt, h.flt, h.room⟩
theorem BG.stp {W w w' : World} {D T K : Nat} {s s' : DD} {kd : Int} {nm to : ByteArray} {p : Int} {ds : List UInt8} (h : BG W w D T K s) (a : AftX w w' W.heap.size D T s s') (e : Stp kd nm to p ds s s') (hd : ds.length ≤ 1048576) : BG W w' D (T + 3) (K + 1) s' := by
  obtain ⟨c1, c2, c3, c4⟩ := e.cnt h.live
  exact ⟨h.bj.stp a e hd, e.lives h.live h.fau, by rw [c3]; have := h.unt; omega, by rw [c4]; exact h.flt, by rw [c1]; exact h.room⟩
/-- behind Fail -/
theorem BJ.fail {W w w' : World} {D T K : Nat} {s : DD} {n er : Int} (h : BJ W w D T K s) (k : DOk w' W.heap.size D (T + 1) (faS s n er)) (f : Fr (fun k => k = D) w w') : BJ W w' D (T + 1) K (faS s n er) :=
  ⟨k, up_disk (s := s) h.up h.lo (f.weak (fun _ hb => hb ▸ .inl rfl)), h.lo, h.iv.set _ _ _ _⟩
set_option maxRecDepth 100000 in
set_option maxHeartbeats 8000000 in
theorem begun_walk (a : Option Addr) (os : List OP) (c : Nat) (w : World) (hP : SCR w a os c) (hll : os.length ≤ 4611686018427387904) (hG : ML w) (hV : 0 < w.heap.size) :
    Calls Tryz.prog 9 #[.slice a os.length c] w fun e w' => ∃ D s, e = .returned (pv D) ∧ BG w w' D 600 200 s := by
  have HP := Hid.of hP
  have HNew := Hid.of (New_gen 1099511627776 w.heap.size (by omega) w hG (Nat.le_refl _) hV)
  have hcap := hP.sl.cap
  clear hP hG hV
  go_enter Tryz.func9, Tryz.ntmps9
  go_wp2_with fail
  refine HNew.out.mono ?_
  rintro e w2 ⟨D, M, L, rfl, k2, l2, u2⟩
  have HJ2 := Hid.of (show BG w w2 D 0 0 (nwS 1099511627776 M L) from ⟨⟨k2, u2, l2, nwS_iv _ _ _⟩, rfl, Nat.zero_le _, by show (0 : Int) ≠ 125; decide, rfl⟩)
  clear k2 l2 u2 HNew
  dsimp only
  have hpn : ∀ w', (binOp .eql 24 (.pointer (some ⟨D, 0, none⟩)) (.pointer none)).run Tryz.prog w' = .ok (.bool false) w' := fun w' => by kernel_rfl
  go_wp2
  go_loopw [5] (fun v5 wr => ∃ i : Nat, v5 = .int .i64 (i : Int) ∧ i ≤ os.length ∧ i ≤ 200 ∧ Hid (∃ s, BG w wr D (3 * i) i s)) (fun v5 _ => os.length - (intOf v5).toNat)
  case atStart => exact ⟨0, rfl, by omega, by omega, Hid.of ⟨_, HJ2.out⟩⟩
  case round =>
    obtain ⟨i, rfl, hi, hi2, hR⟩ := hrel
    obtain ⟨s, hJ⟩ := hR.out
    have HJ := Hid.of hJ
    clear hR hJ HJ2 hpn
    by_cases hlt : i < os.length ∧ i < 200
    · obtain ⟨hlt, hlt2⟩ := hlt
      have hltz : (i : Int) < (os.length : Int) := by omega
      have hlt2z : (i : Int) < 200 := by omega
      obtain ⟨b, off, rfl, hr⟩ := HP.out.sl.cells i hlt
      have HR := Hid.of (range_up hr HJ.out.bj.up)
      have HOne := Hid.of (HP.out.sl.one os[i] (List.getElem_mem hlt))
      obtain ⟨ds, hds1, hds2, hds3⟩ := HP.out.dat os[i] (List.getElem_mem hlt)
      have HDs := Hid.of (And.intro (hds1.up HJ.out.bj.up) (And.intro hds2 hds3))
      clear hr hds1 hds2 hds3
      obtain ⟨o, ho⟩ : ∃ o, os[i] = o := ⟨_, rfl⟩
      rw [ho] at HR HOne HDs
      clear ho
      go_wp2_with (with_reducible show wpList _ _ _ ({ dst := _, op := Op.indexAddr 22 _ _, type := _, pos := _, after := _, guard := _ } :: _) _ _; refine Shut.out ?_)
      show wpList _ _ _ _ _ _
      refine wpList_val7 (.pointer (some ⟨b, off + i * 9, none⟩)) rfl (exec_idxOp i hlt rfl rfl rfl) ?_
      simp only [Act.put, List.setIfInBounds_toArray, List.set_cons_zero, List.set_cons_succ]
      refine wpList_load_mid rfl _ _ rfl b (off + i * 9) rfl (opc o) _ HR.out Tryz.underlying55 rfl infoOp ?_
      simp only [Act.put, List.setIfInBounds_toArray, List.set_cons_zero, List.set_cons_succ]
      go_wp2_with (with_reducible show wpList _ _ _ ({ dst := _, op := Op.store 55 _ _, type := _, pos := _, after := _, guard := _ } :: _) _ _; refine Shut.out ?_)
      show wpList _ _ _ _ _ _
      refine wpList_store_at rfl 55 _ _ rfl wr.heap.size (at_new wr 55 [.int .i64 0, .int .i64 0, .string ⟨#[]⟩, .string ⟨#[]⟩, .int .i64 0, .int .i64 0, .slice none 0 0, .slice none 0 0, .slice none 0 0]) (opc o) rfl rfl rfl infoOp (by simpa using HOne.out) ?_
      intro w4 hA4 hg4
      have HA4 := Hid.of hA4
      have HU4 := Hid.of (((Up.refl wr).alloc (.cells [.int .i64 0, .int .i64 0, .string ⟨#[]⟩, .string ⟨#[]⟩, .int .i64 0, .int .i64 0, .slice none 0 0, .slice none 0 0, .slice none 0 0].toArray 55)).by hg4 (fun g hg => by have := Option.some.inj hg; omega))
      generalize wr.heap.size = bo at *
      clear hA4 hg4 HR HOne
      simp only [Act.put]
      have c0 := HA4.out.cell (i := 0) rfl
      have c5 := HA4.out.cell (i := 5) rfl
      go_wp2_with (with_reducible show wpList _ _ _ ({ dst := _, op := Op.load 55 _, type := _, pos := _, after := _, guard := _ } :: _) _ _; refine Shut.out ?_)
      show wpList _ _ _ _ _ _
      refine wpList_load_mid rfl _ _ rfl bo 0 rfl (opc o) _ HA4.out.range Tryz.underlying55 rfl infoOp ?_
      simp only [Act.put, List.setIfInBounds_toArray, List.set_cons_zero, List.set_cons_succ]
      go_wp2_with fail
      refine (plain_walk o ds w4 (HDs.out.1.up HU4.out)).mono ?_
      rintro e w5 ⟨rfl, u5⟩
      have HA5 := Hid.of (HA4.out.up u5)
      have HU5 := Hid.of (HU4.out.trans u5)
      clear u5 c0 c5 HU4 HA4
      have c0 := HA5.out.cell (i := 0) rfl
      have c5 := HA5.out.cell (i := 5) rfl
      dsimp only
      by_cases hp : plainP o ds.length
      · have hpd : (plainB o ds.length) = true := plainB_t hp
        have HPl := Hid.of hp
        clear hp
        go_wp2_with (with_reducible show wpList _ _ _ ({ dst := _, op := Op.load 55 _, type := _, pos := _, after := _, guard := _ } :: _) _ _; refine Shut.out ?_)
        show wpList _ _ _ _ _ _
        refine wpList_load_mid rfl _ _ rfl bo 0 rfl (opc o) _ HA5.out.range Tryz.underlying55 rfl infoOp ?_
        simp only [Act.put, List.setIfInBounds_toArray, List.set_cons_zero, List.set_cons_succ]
        have HJ5 := Hid.of (HJ.out.upTo HU5.out)
        have HC := Hid.of (act_plain o ds w5 HJ5.out.bj.ok HJ5.out.unt (by omega) HPl.out (HDs.out.1.up HU5.out) HJ5.out.bj.iv.cw (by have := HJ5.out.bj.iv.n0; omega) HJ5.out.bj.iv.ly)
        go_wp2_with fail
        refine HC.out.mono ?_
        rintro e w9 ⟨rfl, s', a9, p9⟩
        have HJ9 := Hid.of (HJ5.out.stp a9 p9 HPl.out.2.2)
        clear a9 p9 HC
        dsimp only
        go_wp2
        go_roundw
        all_goals first
          | exact ⟨i + 1, by go_num, by omega, by omega, Hid.of ⟨s', HJ9.out⟩⟩
          | (simp [intOf]; omega)
      · have hpd : (plainB o ds.length) = false := plainB_f hp
        clear hp
        have HJ5 := Hid.of (HJ.out.upTo HU5.out)
        have HAt := Hid.of HDs.out.2.2
        clear HDs HJ
        obtain ⟨kd, d, nm, to, at_, er, v6, v7, v8⟩ := o
        by_cases h13 : kd = 13
        · subst h13
          by_cases he : er = 125
          · subst he
            go_wp2
            go_roundw
            all_goals first
              | exact ⟨i + 1, by go_num, by omega, by omega, Hid.of ⟨s, HJ5.out.more (by omega) (by omega) (by omega)⟩⟩
              | (simp [intOf]; omega)
          · have heq : (er == 125) = false := by rw [beq_eq_false_iff_ne]; exact he
            have HEr := Hid.of he
            clear he
            go_wp2_with (with_reducible show wpList _ _ _ ({ dst := _, op := Op.load 55 _, type := _, pos := _, after := _, guard := _ } :: _) _ _; refine Shut.out ?_)
            show wpList _ _ _ _ _ _
            refine wpList_load_mid rfl _ _ rfl bo 0 rfl _ _ HA5.out.range Tryz.underlying55 rfl infoOp ?_
            simp only [Act.put, List.setIfInBounds_toArray, List.set_cons_zero, List.set_cons_succ]
            have HC := Hid.of (act_Fail d nm to at_ er v6 v7 v8 w5 HJ5.out.bj.ok HJ5.out.live (by omega))
            go_wp2_with fail
            refine HC.out.mono ?_
            rintro e w9 ⟨z, s', rfl, k9, f9, h9⟩
            have HJ9 := Hid.of (show BG w w9 D (3 * (i + 1)) (i + 1) s' from by
              rcases h9 with rfl | ⟨_, rfl⟩
              · exact BG.more (T := 3 * i + 1) (K := i) ⟨⟨k9, up_disk HJ5.out.bj.up HJ5.out.bj.lo (f9.weak (fun b hb => hb ▸ .inl rfl)), HJ5.out.bj.lo, HJ5.out.bj.iv⟩, HJ5.out.live, HJ5.out.unt, HJ5.out.flt, HJ5.out.room⟩ (by omega) (by omega) (by omega)
              · exact BG.more (T := 3 * i + 1) (K := i) ⟨HJ5.out.bj.fail k9 f9, HJ5.out.live, by show at_.toNat ≤ 9223372036854775807; have := HAt.out; omega, HEr.out, HJ5.out.room⟩ (by omega) (by omega) (by omega))
            clear k9 f9 h9 HC
            dsimp only
            go_wp2
            go_roundw
            all_goals first
              | exact ⟨i + 1, by go_num, by omega, by omega, Hid.of ⟨s', HJ9.out⟩⟩
              | (simp [intOf]; omega)
        · have hkq : (kd == 13) = false := by rw [beq_eq_false_iff_ne]; exact h13
          clear h13
          go_wp2
          go_roundw
          all_goals first
            | exact ⟨i + 1, by go_num, by omega, by omega, Hid.of ⟨s, HJ5.out.more (by omega) (by omega) (by omega)⟩⟩
            | (simp [intOf]; omega)
    · by_cases hlt2 : i < os.length
      · have hltz : (i : Int) < (os.length : Int) := by omega
        have hge : ¬ (i : Int) < 200 := by omega
        go_wp2
        go_ret
        exact ⟨D, rfl, s, HJ.out.more (by omega) (by omega) (by omega)⟩
      · have hltz : ¬ (i : Int) < (os.length : Int) := by omega
        go_wp2
        go_ret
        exact ⟨D, rfl, s, HJ.out.more (by omega) (by omega) (by omega)⟩
end Go.Proofs.YtaibjeehjhlicaaGreatDoor
