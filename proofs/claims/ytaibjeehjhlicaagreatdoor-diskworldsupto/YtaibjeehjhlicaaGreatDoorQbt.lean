import Derived.Test.YtaibjeehjhlicaaGreatDoorQax
namespace Go.Proofs.YtaibjeehjhlicaaGreatDoor
open Go.RowKit Go.Shelf TextNum ModNum
/-- the first loop keeps -/
structure SN1 (s : DD) (w wx : World) (j : Nat) : Prop where
  fr : Fr (fun k => k = s.L) w wx
  mp : ∃ n dm, n ≤ s.nL + j ∧ OM wx s.L n dm ∧ MIs dm (nrun (s.chs.take j) s.las)
/-- the second loop keeps -/
structure SN2 (s : DD) (w wx : World) (D n : Nat) (dm : DataW Unit) (j : Nat) : Prop where
  fr : Fr (fun k => k = D ∨ k = s.L) w wx
  mp : OM wx s.L n dm
  dk : At wx D 85 [.int .i64 (s.room : Int), .int .i64 (usd s.nf : Int), .bool s.dead, .map (some s.M), .map (some s.L), s.vC, s.vLo, .int .i64 ((lsd (s.nf.map (·.2)) + lsd (s.of.drop j) : Nat) : Int), .int .i64 (s.trn : Int), .int .i64 (s.acts : Int), .int .i64 (s.unt : Int), .int .i64 s.flt]
theorem lsd_drop {fs : List FL} {j : Nat} (hj : j < fs.length) : lsd (fs.drop j) = fs[j].lo.length + lsd (fs.drop (j + 1)) := by
  unfold lsd
  rw [List.drop_eq_getElem_cons hj, List.map_cons, List.sum_cons]
set_option maxRecDepth 100000 in
set_option maxHeartbeats 4000000 in
theorem settleNames_dd {B D T : Nat} {s : DD} (w : World) (h : DOk w B D T s) (hcw : CW s) (hn0 : s.n0 + s.chs.length ≤ 1000000) (hT : T + 1 ≤ 100000) :
    Calls Tryz.prog 49 #[pv D] w fun e w' => e = .returned (.tuple #[]) ∧ ∃ nL dl, DOk w' B D (T + 1) (snS s nL dl) ∧ Nw w.heap.size D s (snS s nL dl) ∧ Fr (own D s) w w' := by
  have HD := Hid.of h
  have HCW := Hid.of hcw
  obtain ⟨aC, cC, hvC⟩ : ∃ a c, s.vC = .slice a s.chs.length c := by
    rcases h.rowC.2 with ⟨e1, h0⟩ | ⟨g, cap, cur, e1, _⟩
    · exact ⟨none, 0, by rw [e1, h0]⟩
    · exact ⟨_, cap, e1⟩
  obtain ⟨aO, cO, hvO⟩ : ∃ a c, s.vLo = .slice a s.of.length c := by
    rcases h.rowL.2 with ⟨e1, h0⟩ | ⟨g, cap, cur, e1, _⟩
    · exact ⟨none, 0, by rw [e1, h0]⟩
    · exact ⟨_, cap, e1⟩
  have HVC := Hid.of hvC
  have HVO := Hid.of hvO
  have hDL : ¬ D = s.L := fun e => by
    have h1 := h.disk.tg
    rw [e, map_tg h.mlas] at h1
    cases h1
  have c5 : w.cell? ⟨D, 5, none⟩ = some (.slice aC s.chs.length cC) := (h.disk.cell (i := 5) rfl).trans (congrArg some hvC)
  have hnum := h.num
  have hch : s.chs.length ≤ 100000 := by omega
  have hof : s.of.length ≤ 100000 := by omega
  clear hcw hvC hvO hnum
  clear h
  go_enter Tryz.func49, Tryz.ntmps49
  go_wp2
  go_loopw [11] (fun v11 wq => ∃ j : Nat, v11 = .int .i64 (j : Int) ∧ j ≤ s.chs.length ∧ Hid (SN1 s w wq j)) (fun v11 _ => s.chs.length - (intOf v11).toNat)
  case atStart => exact ⟨0, rfl, by omega, Hid.of ⟨Fr.refl _ _, s.nL, s.dl, Nat.le_refl _, HD.out.mlas, HD.out.isl⟩⟩
  case round =>
    obtain ⟨j, rfl, hj, hQj⟩ := hrel
    have HQ := Hid.of hQj.out
    clear hQj c5
    by_cases hjc : j < s.chs.length
    · have hjz : (j : Int) < (s.chs.length : Int) := by omega
      have hrow := HQ.out.fr.own HD.out.rowC (fun g hg e => by
        have h1 := own_tg HD.out.rowC hg
        rw [show g = s.L from e, map_tg HD.out.mlas] at h1
        cases h1)
      obtain ⟨gC, rfl⟩ : ∃ gC, aC = some ⟨gC, 0, none⟩ := by
        rcases hrow.2 with ⟨_, h0⟩ | ⟨g, cap, cur, e1, _⟩
        · omega
        · rw [HVC.out] at e1
          injection e1 with e1
          exact ⟨g, e1⟩
      rw [HVC.out] at hrow
      have k5 := World.ownsRow.cells hrow rfl j (nav s.chs[j]) (by rw [List.getElem?_map, List.getElem?_eq_getElem hjc]; rfl)
      rw [Addr.add_lit, Nat.zero_add] at k5
      obtain ⟨n, dm, hnj, hMj, hIj⟩ := HQ.out.mp
      have hok := (HD.out.chk _ (List.getElem_mem hjc)).fr HQ.out.fr (fun b hb e => by
        have h1 := HD.out.chk _ (List.getElem_mem hjc)
        have h2 : tagOf w b = none := by rw [show b = s.L from e]; exact map_tg HD.out.mlas
        exact h1.out hb h2 (fun _ _ h => by cases h))
      have HAg := Hid.of (fun (w' : World) (u : Up wr w') => again_gen (hok.up u) (HCW.out.cn.fit j hjc) (hMj.up u) hIj (by simp only [maxLen]; have := HD.out.num; omega))
      obtain ⟨fc, caps, hnav, hfc, _⟩ := HAg.out wr (Up.refl _)
      have HCall := Hid.of (fun (w' : World) (u : Up wr w') => show Calls Tryz.prog fc (#[.map (some s.L)] ++ caps) w' (fun e w'' => e = .returned (.tuple #[]) ∧ SN1 s w w'' (j + 1)) from by
        obtain ⟨f', caps', h', _, hc⟩ := HAg.out w' u
        rw [hnav] at h'
        injection h' with e1 _ e2
        injection e1 with e1
        subst e1 e2
        refine hc.mono ?_
        rintro e w'' ⟨rfl, n', dm', hn', o6, hI6, g6⟩
        refine ⟨rfl, (HQ.out.fr.up u).by g6 (fun k hk => .inl (Option.some.inj hk).symm), n', dm', by omega, o6, ?_⟩
        rw [List.take_succ_eq_append_getElem hjc, nrun_snoc]
        exact hI6)
      have c4 := (HQ.out.fr.at HD.out.disk hDL).cell (i := 4) rfl
      have cU := fun (w' : World) (u : Up wr w') => ((HQ.out.fr.at HD.out.disk hDL).up u).cell (i := 4) rfl
      rw [hnav] at k5
      clear hrow hok hMj hIj HAg hnav hnj
      rcases hfc with ⟨rfl, rfl⟩ | ⟨rfl, rfl⟩ | ⟨rfl, rfl⟩
      · go_wp2_with fail
        have HA3 := Hid.of (at_new wr 106 [Value.func (.func 55) #[] #[pv s.chs[j].b1, pv s.chs[j].b2]])
        have HU3 := Hid.of ((Up.refl wr).alloc (.cells [Value.func (.func 55) #[] #[pv s.chs[j].b1, pv s.chs[j].b2]].toArray 106))
        have hw3 : wr.alloc (.cells [Value.func (.func 55) #[] #[pv s.chs[j].b1, pv s.chs[j].b2]].toArray 106) = wr.alloc (.cells #[Value.func (.func 55) #[] #[pv s.chs[j].b1, pv s.chs[j].b2]] 106) := rfl
        have c43 := cU _ HU3.out
        rw [hw3] at HA3 HU3 c43
        have c3 := HA3.out.cell (i := 0) rfl
        clear k5 c4 cU hw3
        generalize wr.alloc (.cells #[Value.func (.func 55) #[] #[pv s.chs[j].b1, pv s.chs[j].b2]] 106) = W3 at *
        have HX := Hid.of (HCall.out W3.drew HU3.out.drew)
        clear HCall
        apply wp_som (fun _ _ u => SN1 s w u (j + 1))
        case h =>
          go_region_with (go_at_call 55; refine HX.out.mono ?_; rintro e w6 ⟨rfl, h6⟩; have HQ6 := Hid.of h6; clear h6; obtain ⟨x0, hx0⟩ : ∃ x : Option Addr, x = none := ⟨_, rfl⟩; obtain ⟨n0, hn0⟩ : ∃ n : Nat, n = 0 := ⟨_, rfl⟩)
          all_goals exact ⟨x0, n0, _, HQ6.out, rfl, rfl⟩
        intro _ _ w6 h6
        have HQ6 := Hid.of h6
        clear h6 HX
        go_wp2
        go_roundw
        all_goals first
          | exact ⟨j + 1, by go_num, by omega, HQ6⟩
          | (simp [intOf]; omega)
      · go_wp2_with fail
        have HA3 := Hid.of (at_new wr 106 [Value.func (.func 100) #[] #[pv s.chs[j].b2]])
        have HU3 := Hid.of ((Up.refl wr).alloc (.cells [Value.func (.func 100) #[] #[pv s.chs[j].b2]].toArray 106))
        have hw3 : wr.alloc (.cells [Value.func (.func 100) #[] #[pv s.chs[j].b2]].toArray 106) = wr.alloc (.cells #[Value.func (.func 100) #[] #[pv s.chs[j].b2]] 106) := rfl
        have c43 := cU _ HU3.out
        rw [hw3] at HA3 HU3 c43
        have c3 := HA3.out.cell (i := 0) rfl
        clear k5 c4 cU hw3
        generalize wr.alloc (.cells #[Value.func (.func 100) #[] #[pv s.chs[j].b2]] 106) = W3 at *
        have HX := Hid.of (HCall.out W3.drew HU3.out.drew)
        clear HCall
        apply wp_som (fun _ _ u => SN1 s w u (j + 1))
        case h =>
          go_region_with (go_at_call 100; refine HX.out.mono ?_; rintro e w6 ⟨rfl, h6⟩; have HQ6 := Hid.of h6; clear h6; obtain ⟨x0, hx0⟩ : ∃ x : Option Addr, x = none := ⟨_, rfl⟩; obtain ⟨n0, hn0⟩ : ∃ n : Nat, n = 0 := ⟨_, rfl⟩)
          all_goals exact ⟨x0, n0, _, HQ6.out, rfl, rfl⟩
        intro _ _ w6 h6
        have HQ6 := Hid.of h6
        clear h6 HX
        go_wp2
        go_roundw
        all_goals first
          | exact ⟨j + 1, by go_num, by omega, HQ6⟩
          | (simp [intOf]; omega)
      · go_wp2_with fail
        have HA3 := Hid.of (at_new wr 106 [Value.func (.func 60) #[] #[pv s.chs[j].b1, pv s.chs[j].b2]])
        have HU3 := Hid.of ((Up.refl wr).alloc (.cells [Value.func (.func 60) #[] #[pv s.chs[j].b1, pv s.chs[j].b2]].toArray 106))
        have hw3 : wr.alloc (.cells [Value.func (.func 60) #[] #[pv s.chs[j].b1, pv s.chs[j].b2]].toArray 106) = wr.alloc (.cells #[Value.func (.func 60) #[] #[pv s.chs[j].b1, pv s.chs[j].b2]] 106) := rfl
        have c43 := cU _ HU3.out
        rw [hw3] at HA3 HU3 c43
        have c3 := HA3.out.cell (i := 0) rfl
        clear k5 c4 cU hw3
        generalize wr.alloc (.cells #[Value.func (.func 60) #[] #[pv s.chs[j].b1, pv s.chs[j].b2]] 106) = W3 at *
        have HX := Hid.of (HCall.out W3.drew HU3.out.drew)
        clear HCall
        apply wp_som (fun _ _ u => SN1 s w u (j + 1))
        case h =>
          go_region_with (go_at_call 60; refine HX.out.mono ?_; rintro e w6 ⟨rfl, h6⟩; have HQ6 := Hid.of h6; clear h6; obtain ⟨x0, hx0⟩ : ∃ x : Option Addr, x = none := ⟨_, rfl⟩; obtain ⟨n0, hn0⟩ : ∃ n : Nat, n = 0 := ⟨_, rfl⟩)
          all_goals exact ⟨x0, n0, _, HQ6.out, rfl, rfl⟩
        intro _ _ w6 h6
        have HQ6 := Hid.of h6
        clear h6 HX
        go_wp2
        go_roundw
        all_goals first
          | exact ⟨j + 1, by go_num, by omega, HQ6⟩
          | (simp [intOf]; omega)
    · have hjz : ¬ (j : Int) < (s.chs.length : Int) := by omega
      have hjk : j = s.chs.length := by omega
      subst hjk
      obtain ⟨n, dm, hnj, hMj, hIj⟩ := HQ.out.mp
      rw [List.take_length] at hIj
      have HI1 := Hid.of hIj
      have hdw := HQ.out.fr.at HD.out.disk hDL
      have c6 : wr.cell? ⟨D, 6, none⟩ = some (.slice aO s.of.length cO) := (hdw.cell (i := 6) rfl).trans (congrArg some HVO.out)
      have HS0 := Hid.of (show SN2 s w wr D n dm 0 from ⟨HQ.out.fr.weak (fun k hk => .inr hk), hMj, by
        have e : lsd (s.nf.map (·.2)) + lsd (s.of.drop 0) = lsd (fls s) := by
          rw [List.drop_zero]
          unfold fls
          rw [lsd_append]
        rw [e]
        exact hdw⟩)
      clear hMj hIj hdw HQ
      go_wp2
      go_loopw [5, 28] (fun _ v28 wq => ∃ j : Nat, v28 = .int .i64 (j : Int) ∧ j ≤ s.of.length ∧ Hid (SN2 s w wq D n dm j)) (fun _ v28 _ => s.of.length - (intOf v28).toNat)
      case atStart => exact ⟨0, rfl, by omega, HS0⟩
      case round =>
        obtain ⟨i, rfl, hi, hQi⟩ := hrel
        have HQ := Hid.of hQi.out
        clear hQi c6 HS0
        by_cases hic : i < s.of.length
        · have hiz : (i : Int) < (s.of.length : Int) := by omega
          have hfm : s.of[i] ∈ fls s := List.mem_append_right _ (List.getElem_mem hic)
          have hrow := HQ.out.fr.own HD.out.rowL (fun g hg e => by
            have h1 := own_tg HD.out.rowL hg
            rcases e with e | e
            · rw [e, HD.out.disk.tg] at h1; exact absurd h1 (by decide)
            · rw [e, map_tg HD.out.mlas] at h1; cases h1)
          obtain ⟨gO, rfl⟩ : ∃ gO, aO = some ⟨gO, 0, none⟩ := by
            rcases hrow.2 with ⟨_, h0⟩ | ⟨g, cap, cur, e1, _⟩
            · omega
            · rw [HVO.out] at e1
              injection e1 with e1
              exact ⟨g, e1⟩
          rw [HVO.out] at hrow
          have k5 := World.ownsRow.cells hrow rfl i (pv s.of[i].b) (by rw [List.getElem?_map, List.getElem?_eq_getElem hic]; rfl)
          rw [Addr.add_lit, Nat.zero_add] at k5
          have hok := (HD.out.fok _ hfm).fr HQ.out.fr (HD.out.lfile hfm)
          obtain ⟨f, hf⟩ : ∃ f, s.of[i] = f := ⟨_, rfl⟩
          have hld := lsd_drop hic
          rw [hf] at k5 hok hld hfm
          obtain ⟨ao, co, hvo⟩ : ∃ ao co, f.vo = .slice ao f.lo.length co := by
            rcases hok.loose.2 with ⟨h, h0⟩ | ⟨g, cap, cur, h, _⟩
            · exact ⟨none, 0, by rw [h, h0]⟩
            · exact ⟨_, cap, h⟩
          have cF : wr.cell? ⟨f.b, 2, none⟩ = some (.slice ao f.lo.length co) := (hok.file.cell (i := 2) rfl).trans (congrArg some hvo)
          have HA := Hid.of HQ.out.dk
          have c7 := HQ.out.dk.cell (i := 7) rfl
          have t7 := HQ.out.dk.thaw 7
          have hww : wrap64 ((lsd (s.nf.map (·.2)) : Int) + (lsd (s.of.drop i) : Int) - (f.lo.length : Int)) = (lsd (s.nf.map (·.2)) : Int) + (lsd (s.of.drop (i + 1)) : Int) := by
            have h1 := HD.out.num
            have h2 : lsd (s.of.drop i) ≤ lsd (fls s) := by
              have h4 : lsd s.of = lsd (s.of.take i) + lsd (s.of.drop i) := by rw [← lsd_append, List.take_append_drop]
              have h5 : lsd (fls s) = lsd (s.nf.map (·.2)) + lsd s.of := by unfold fls; rw [lsd_append]
              omega
            have h6 : lsd (fls s) = lsd (s.nf.map (·.2)) + lsd s.of := by unfold fls; rw [lsd_append]
            have h7 : lsd s.of = lsd (s.of.take i) + lsd (s.of.drop i) := by rw [← lsd_append, List.take_append_drop]
            unfold wrap64
            omega
          have HNx := Hid.of (fun w9 (e : w9 = (wr.setCell ⟨D, 7, none⟩ (.int .i64 ((lsd (s.nf.map (·.2)) : Int) + (lsd (s.of.drop (i + 1)) : Int)))).drew) => (by
            rw [← Int.natCast_add] at e
            subst e
            have g1 := grown_at wr D 7 (.int .i64 ((lsd (s.nf.map (·.2)) + lsd (s.of.drop (i + 1)) : Nat) : Int))
            have f1 := (HQ.out.fr.by g1 (fun k hk => .inl (.inl (Option.some.inj hk).symm))).up (Up.refl _).drew
            have f2 : Fr (fun k => k = D) wr (wr.setCell ⟨D, 7, none⟩ (.int .i64 ((lsd (s.nf.map (·.2)) + lsd (s.of.drop (i + 1)) : Nat) : Int))) := (Fr.refl _ wr).by g1 (fun k hk => .inl (Option.some.inj hk).symm)
            exact ⟨f1, (f2.map HQ.out.mp (fun e => hDL e.symm)).up (Up.refl _).drew, (HA.out.set 7 _).up (Up.refl _).drew⟩ : SN2 s w w9 D n dm (i + 1)))
          clear hrow hok hld hf hvo hfm HA HQ
          go_wp2
          apply wp_once
          case h =>
            go_region
            all_goals exact ⟨rfl, rfl⟩
          have HQ2 := Hid.of (HNx.out _ rfl)
          clear HNx hww k5 cF c7 t7
          go_wp2
          go_roundw
          case rel => exact ⟨i + 1, by go_num, by omega, HQ2⟩
          case measure => simp [intOf]; omega
        · have hiz : ¬ (i : Int) < (s.of.length : Int) := by omega
          have hik : i = s.of.length := by omega
          subst hik
          have HA := Hid.of HQ.out.dk
          have c5 := HQ.out.dk.cell (i := 5) rfl
          have c6 := HQ.out.dk.cell (i := 6) rfl
          have t5 := HQ.out.dk.thaw 5
          have t6 := HQ.out.dk.thaw 6
          have HFin := Hid.of (fun w9 (e : w9 = (wr.setCell ⟨D, 5, none⟩ (.slice none 0 0)).setCell ⟨D, 6, none⟩ (.slice none 0 0)) => (by
            subst e
            have g1 := grown_at wr D 5 (.slice none 0 0)
            have g2 := grown_at (wr.setCell ⟨D, 5, none⟩ (.slice none 0 0)) D 6 (.slice none 0 0)
            have fr := HQ.out.fr.by (grown_trans g1 g2) (fun k hk => .inl (.inl (Option.some.inj hk).symm))
            have f2 : Fr (fun k => k = D) wr ((wr.setCell ⟨D, 5, none⟩ (.slice none 0 0)).setCell ⟨D, 6, none⟩ (.slice none 0 0)) := (Fr.refl _ wr).by (grown_trans g1 g2) (fun k hk => .inl (Option.some.inj hk).symm)
            have hd9 := (HA.out.set 5 (.slice none 0 0)).set 6 (.slice none 0 0)
            have el : lsd (s.nf.map (·.2)) + lsd (s.of.drop s.of.length) = lsd (fls (snS s n dm)) := by
              rw [List.drop_length]
              show _ = lsd (s.nf.map (fun p : List UInt8 × FL => p.2) ++ [])
              rw [List.append_nil]
              rfl
            rw [el] at hd9
            obtain ⟨q1, q2⟩ := HD.out.sn n dm fr hd9 (f2.map HQ.out.mp (fun e => hDL e.symm)) HI1.out hnj hn0 hT
            exact ⟨q1, q2, fr.weak (fun k hk => by
              rcases hk with hk | hk
              · exact .inl hk
              · exact .inr (.inr (.inl hk)))⟩ : DOk w9 B D (T + 1) (snS s n dm) ∧ Nw w.heap.size D s (snS s n dm) ∧ Fr (own D s) w w9))
          have HR := Hid.of (HFin.out _ rfl)
          clear HFin HA HQ
          go_wp2
          go_end0
          exact ⟨rfl, n, dm, HR.out⟩
set_option maxRecDepth 100000 in
set_option maxHeartbeats 1000000 in
theorem SyncNames_all {B D T : Nat} {s : DD} (nm to : ByteArray) (p : Int) (ds : List UInt8) (w : World) (h : DOk w B D T s) (hu : s.unt ≤ 9223372036854775807) (hT : T + 3 ≤ 100000) (hcw : CW s) (hn0 : s.n0 + s.chs.length ≤ 1000000) :
    Calls Tryz.prog 16 #[pv D] w fun e w9 => e = .returned (.int .i64 (erE 6 nm to p ds.length s)) ∧ ∃ s', AftX w w9 B D T s s' ∧ Stp 6 nm to p ds s s' := by
  obtain ⟨er, her⟩ : ∃ er : Int, erE 6 nm to p ds.length s = er := ⟨_, rfl⟩
  have HPo := Hid.of (show Calls Tryz.prog 45 #[pv D, .int .i64 0, .func (.func 49) #[pv D] #[]] w fun e w9 => e = .returned (.int .i64 er) ∧ ∃ s', AftX w w9 B D T s s' ∧ Stp 6 nm to p ds s s' from by
    rw [← her, ← own6 nm to p ds.length s]
    refine actX_Names 6 nm to p ds w w h (Up.refl w) hu hT (fun hd ho w4 h4 f4 g4 => ?_)
    refine (settleNames_dd w4 h4 ⟨hcw.cn, hcw.now⟩ hn0 (by omega)).mono ?_
    rintro e w9 ⟨rfl, nL, dl, q1, q2, q3⟩
    refine ⟨rfl, _, ⟨q1, ?_, ?_⟩, eff6 ⟨nL, dl, rfl⟩⟩
    · exact Nw.trans (s1 := acS s) (fun k hk => .inl hk) q2 (by have := f4.size; omega)
    · exact ((Fr.refl (own D s) w).trans f4 (fun g hg => .inl (.inl hg))).trans q3 (fun g hg => .inl hg))
  rw [her]
  clear h her hcw hn0
  go_enter Tryz.func16, Tryz.ntmps16
  go_wp2_with fail
  refine HPo.out.mono ?_
  rintro e w9 ⟨rfl, hP⟩
  have HP := Hid.of hP
  clear hP HPo
  dsimp only
  go_wp2
  go_ret
  exact ⟨rfl, HP.out⟩
end Go.Proofs.YtaibjeehjhlicaaGreatDoor
