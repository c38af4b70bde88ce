import Derived.Test.YtaibjeehjhlicaaGreatDoorQby
namespace Go.Proofs.YtaibjeehjhlicaaGreatDoor
open Go.RowKit Go.Shelf TextNum ModNum
theorem FsO.fr {S : Nat → Prop} {w w' : World} {N : Nat} {a : Option Addr} {fs : List GF} {c : Nat} (h : FsO w N a fs c) (k : Fr S w w') (hS : ∀ b, S b → b < N) : FsO w' N a fs c :=
  ⟨k.own h.row (fun g hg hs => by have := (World.ownsRow.lt h.row g hg).1; have := hS g hs; omega), fun g hg => k.own (h.dat g hg) (fun b hb hs => by have := (World.ownsRow.lt (h.dat g hg) b hb).1; have := hS b hs; omega)⟩
/-- a list of texts beside the disk -/
structure RN (w : World) (N D : Nat) (s : DD) (v : Value) (xs : List (List UInt8)) : Prop where
  row : OwS w N v xs
  no : ∀ k, v.ownBlock = some k → ¬ own D s k
theorem RN.up {w w' : World} {N D : Nat} {s : DD} {v : Value} {xs : List (List UInt8)} (h : RN w N D s v xs) (u : Up w w') : RN w' N D s v xs := ⟨ow_up h.row u, h.no⟩
theorem RN.disk {w w' : World} {N D : Nat} {s s' : DD} {v : Value} {xs : List (List UInt8)} (h : RN w N D s v xs) (f : Fr (own D s) w w') (n : Nw w.heap.size D s s') : RN w' N D s' v xs :=
  ⟨f.own h.row h.no, fun k hk ho => by
    rcases n k ho with h1 | h1
    · exact h.no k hk h1
    · have := (World.ownsRow.lt h.row k hk).2; omega⟩
/-- which files are synced -/
def Syd (s : DD) (L : List (List UInt8)) : Prop := ∀ p ∈ s.nf, p.1 ∈ L → p.2.lo = [] ∧ p.2.lb = p.2.nb
theorem Syd.sy {s s' : DD} {L : List (List UInt8)} {nm to : ByteArray} {p : Int} {ds : List UInt8} (h : Syd s L) (n : ND s) (hly : ∀ f ∈ fls s, lay f.lb f.lo = f.nb) (e : Eff 5 nm to p ds s s') : Syd s' (L ++ [nm.data.toList]) ∧ s'.nf.map (·.1) = s.nf.map (·.1) := by
  obtain ⟨f, v, hf, rfl⟩ := eff_sy e
  refine ⟨fun q hq hl => ?_, rpl_keys _ _ _⟩
  rcases mem_rpl (show q ∈ rpl s.nf f.b (syF f v) from hq) with ⟨q2, h2, h3, rfl⟩ | ⟨h2, h3⟩
  · exact ⟨rfl, hly f (mem_fls_nf hf)⟩
  · rcases List.mem_append.1 hl with h4 | h4
    · exact h q h2 h4
    · obtain ⟨ql, qf⟩ := q
      have h4 : ql = nm.data.toList := List.mem_singleton.1 h4
      subst h4
      exact absurd (congrArg FL.b (nd_val n.1 h2 hf)) h3
theorem lsd_zero' {fs : List FL} (h : ∀ f ∈ fs, f.lo = []) : lsd fs = 0 := lsd_zero h
/-- what DiskLasts' loop keeps -/
structure LJ2 (W w : World) (N D T K : Nat) (s : DD) (v : Value) (L : List (List UInt8)) (i : Nat) : Prop where
  bg : BG W w D T K s
  un : s.unt = 0
  rn : RN w N D s v L
  nm : L = srt (s.nf.map (·.1))
  sy : Syd s (L.take i)
set_option maxRecDepth 100000 in
set_option maxHeartbeats 16000000 in
theorem lasts_walk (a : Option Addr) (os : List OP) (c : Nat) (vc : Value) (cs : List Int) (w : World) (hP : SCR w a os c) (hC : SI w vc cs) (hcl : cs.length ≤ 17592186044416) (hll : os.length ≤ 4611686018427387904) (hG : ML w) (hV : 0 < w.heap.size) :
    Calls Tryz.prog 3 #[.slice a os.length c, vc] w fun e w' => e = .returned (.bool true) ∧ Up w w' := by
  have HC := Hid.of hC
  obtain ⟨ac, cc, rfl, _⟩ := id hC
  have HBe := Hid.of (begun_walk a os c w hP hll hG hV)
  have HV := Hid.of hV
  clear hP hG hV hC
  go_enter Tryz.func3, Tryz.ntmps3
  go_wp2_with fail
  refine HBe.out.mono ?_
  rintro e w2 ⟨D, s, rfl, b2⟩
  have HB2 := Hid.of b2
  clear b2 HBe
  have hpn : ∀ w', (binOp .eql 24 (.pointer (some ⟨D, 0, none⟩)) (.pointer none)).run Tryz.prog w' = .ok (.bool false) w' := fun w' => by kernel_rfl
  dsimp only
  have HH := Hid.of (head_walk w2 HB2.out.bj.ok.ml (by have := HV.out; have := HB2.out.bj.up.size; omega))
  go_wp2_with fail
  refine HH.out.mono ?_
  rintro e w3 ⟨rfl, u3⟩
  have HB3 := Hid.of (HB2.out.upTo u3)
  clear u3 HH HB2
  dsimp only
  have HF := Hid.of (Fail_ok 0 124 w3 HB3.out.bj.ok HB3.out.live (by decide) (by omega))
  go_wp2_with fail
  refine HF.out.mono ?_
  rintro e w4 ⟨rfl, k4, f4⟩
  have HB4 := Hid.of (show BG w w4 D 601 200 (faS s 0 124) from ⟨HB3.out.bj.fail k4 f4, HB3.out.live, by show (0 : Int).toNat ≤ _; decide, by show (124 : Int) ≠ 125; decide, HB3.out.room⟩)
  have HN4 := Hid.of (show (faS s 0 124).unt = 0 from rfl)
  clear k4 f4 HF HB3
  generalize faS s 0 124 = s4 at *
  dsimp only
  have HLi := Hid.of (List_dd ⟨#[]⟩ w4 HB4.out.bj.ok HB4.out.live)
  go_wp2_with fail
  refine HLi.out.mono ?_
  rintro e w5 ⟨v5, rfl, q5, u5⟩
  obtain ⟨Ls, hLs⟩ : ∃ Ls, Ls = srt (s4.nf.map (·.1)) := ⟨_, rfl⟩
  replace q5 : OwS w5 w4.heap.size v5 Ls := by rw [hLs, ← lsN_all]; exact q5
  have HJ5 := Hid.of (show LJ2 w w5 w4.heap.size D 601 200 s4 v5 Ls 0 from ⟨HB4.out.upTo u5, HN4.out, ⟨q5, fun k hk ho => by
    have h1 := (World.ownsRow.lt q5 k hk).1
    have h2 := HB4.out.bj.ok.lt ho
    omega⟩, hLs, fun p hp hl => by
    rw [List.take_zero] at hl
    cases hl⟩)
  have HLl := Hid.of (show Ls.length ≤ 200 by
    rw [hLs, srt_len, List.length_map]
    have := HB4.out.bj.iv.cnt
    unfold fls at this
    rw [List.length_append, List.length_map] at this
    omega)
  obtain ⟨al, cl, rfl⟩ := row_len q5
  obtain ⟨n, hn⟩ : ∃ n, Ls.length = n := ⟨_, rfl⟩
  have hcl5 : n ≤ cl := by
    obtain ⟨a', c', e1, e2, _⟩ := OwS.sl q5
    injection e1 with e3 e4 e5
    omega
  have HN := Hid.of hn
  rw [hn] at HLl HJ5 ⊢
  have hclz : (n : Int) ≤ (cl : Int) := by omega
  have hnl : n ≤ 200 := HLl.out
  clear q5 u5 HLi hLs HB4 HN4 HLl hn
  dsimp only
  go_wp2
  go_loopw [7] (fun v7 wr => ∃ i : Nat, v7 = .int .i64 (i : Int) ∧ i ≤ n ∧ Hid (∃ s, LJ2 w wr w4.heap.size D (601 + 3 * i) (200 + i) s (.slice al n cl) Ls i)) (fun v7 _ => n - (intOf v7).toNat)
  case atStart => exact ⟨0, rfl, by omega, Hid.of ⟨_, HJ5.out⟩⟩
  case round =>
    obtain ⟨i, rfl, hi, hR⟩ := hrel
    obtain ⟨s5, hJ⟩ := hR.out
    have HJ := Hid.of hJ
    clear hR hJ HJ5 hpn
    by_cases hlt : i < n
    · have hltz : (i : Int) < (n : Int) := by omega
      have hil : i < Ls.length := by rw [HN.out]; exact hlt
      obtain ⟨x, hx⟩ : ∃ x, Ls[i] = x := ⟨_, rfl⟩
      have hrow := HJ.out.rn.row
      have k1 : ∃ g, al = some ⟨g, 0, none⟩ ∧ wr.cell? ⟨g, i, none⟩ = some (.string ⟨x.toArray⟩) := by
        rcases hrow.2 with ⟨e1, h0⟩ | ⟨g, cap, cur, e1, _⟩
        · rw [h0] at hil; exact absurd hil (Nat.not_lt_zero _)
        · injection e1 with e2 e3 e4
          refine ⟨g, e2, ?_⟩
          have h5 := World.ownsRow.cells hrow (g := g) (by rw [e2]; rfl) i _ (cst_get hil)
          rw [Addr.add_lit, Nat.zero_add, hx] at h5
          exact h5
      obtain ⟨g, rfl, k1⟩ := k1
      have hfx : ∃ f, (x, f) ∈ s5.nf := by
        have h5 : x ∈ Ls := by rw [← hx]; exact List.getElem_mem hil
        rw [HJ.out.nm, srt_mem] at h5
        obtain ⟨⟨l, f⟩, hp, rfl⟩ := List.mem_map.1 h5
        exact ⟨f, hp⟩
      obtain ⟨f, hf⟩ := hfx
      have HX := Hid.of (show Ls.take (i + 1) = Ls.take i ++ [x] by rw [List.take_succ_eq_append_getElem hil, hx])
      have H0 := Hid.of (show ownE 5 ⟨x.toArray⟩ ⟨x.toArray⟩ 0 ([] : List UInt8).length s5 = 0 by
        rw [own5]
        exact fnE_mem HJ.out.bg.bj.ok.nms hf)
      have HC5 := Sync_all ⟨x.toArray⟩ ⟨x.toArray⟩ 0 [] wr HJ.out.bg.bj.ok HJ.out.bg.unt (by omega) HJ.out.bg.bj.iv.ly
      rw [er_ok HJ.out.bg.live H0.out (fau_zero HJ.out.un)] at HC5
      have HCC := Hid.of HC5
      clear HC5 hrow hf hx
      go_wp2_with fail
      refine HCC.out.mono ?_
      rintro e w9 ⟨rfl, s9, a9, p9⟩
      have HJ9 := Hid.of (show LJ2 w w9 w4.heap.size D (601 + 3 * (i + 1)) (200 + (i + 1)) s9 (.slice (some ⟨g, 0, none⟩) n cl) Ls (i + 1) from by
        have e9 := p9.done HJ.out.bg.live H0.out (fau_zero HJ.out.un)
        obtain ⟨c1, c2, c3, c4⟩ := p9.cnt HJ.out.bg.live
        obtain ⟨y1, y2⟩ := Syd.sy (s := acS s5) HJ.out.sy HJ.out.bg.bj.ok.nD HJ.out.bg.bj.iv.ly e9
        refine ⟨HJ.out.bg.stp a9 p9 (by decide), by rw [c3, HJ.out.un], HJ.out.rn.disk a9.2.2 a9.2.1, ?_, by rw [HX.out]; exact y1⟩
        rw [HJ.out.nm]
        exact congrArg srt y2.symm)
      clear a9 p9 HCC H0 HX k1
      dsimp only
      go_wp2
      go_roundw
      all_goals first
        | exact ⟨i + 1, by go_num, by omega, Hid.of ⟨s9, HJ9.out⟩⟩
        | (simp [intOf]; omega)
    · have hie : i = n := by omega
      subst hie
      have hltz : ¬ (i : Int) < (i : Int) := by omega
      have HSy := Hid.of (show ∀ p ∈ s5.nf, p.2.lo = [] ∧ p.2.lb = p.2.nb from fun p hp => HJ.out.sy p hp (by
        rw [List.take_of_length_le (by rw [HN.out]; exact Nat.le_refl _), HJ.out.nm, srt_mem]
        exact List.mem_map_of_mem hp))
      have HFl := Hid.of (Files_gen wr HJ.out.bg.bj.ok HJ.out.bg.live (by
        have h5 := congrArg List.length HJ.out.nm
        rw [srt_len, List.length_map, HN.out] at h5
        omega))
      go_wp2_with fail
      refine HFl.out.mono ?_
      rintro e w6 ⟨a6, fs6, c6, rfl, o6, u6, e6⟩
      have HO6 := Hid.of o6
      have HE6 := Hid.of (show fs6.map pr = fsOf s5.nf from e6)
      have HJ6 := Hid.of (HJ.out.bg.upTo u6)
      have HL6 := Hid.of (show fs6.length = i by
        have h5 := congrArg List.length e6
        rw [List.length_map] at h5
        rw [h5]
        unfold fsOf
        rw [List.length_map, ← HJ.out.nm, HN.out])
      have HU6 := Hid.of u6.size
      clear o6 u6 e6 HFl
      dsimp only
      go_wp2_with fail
      refine (copies_walk a6 c6 fs6 w6 HO6.out.fsl (by have := HL6.out; omega) (fun g hg => by
        have h5 : pr g ∈ fsOf s5.nf := by rw [← HE6.out]; exact List.mem_map_of_mem hg
        unfold fsOf at h5
        obtain ⟨l, hl, e5⟩ := List.mem_map.1 h5
        obtain ⟨p, hp, rfl⟩ := List.mem_map.1 (srt_mem.1 hl)
        rw [nbOf_mem HJ6.out.bj.ok.nd hp] at e5
        have e7 : p.2.nb = g.ds := congrArg Prod.snd e5
        rw [← e7]
        exact (HJ6.out.bj.ok.sz p.2 (List.mem_append_left _ (List.mem_map_of_mem hp))).1)).mono ?_
      rintro e w7 ⟨a7, fs7, c7, rfl, o7, u7, e7⟩
      have HO7 := Hid.of o7
      have HE7 := Hid.of (show fs7.map pr = fsOf s5.nf from e7.trans HE6.out)
      have HJ7 := Hid.of (HJ6.out.upTo u7)
      have HL7 := Hid.of (show fs7.length = i by
        have h5 := congrArg List.length e7
        rw [List.length_map, List.length_map] at h5
        rw [h5, HL6.out])
      have hl7 : (fs7.length : Int) = (i : Int) := by rw [HL7.out]
      clear o7 u7 e7 HO6 HE6 HL6
      dsimp only
      have H3 := Hid.of (own6 abN abN 0 ([] : List UInt8).length s5)
      have HCn := SyncNames_all abN abN 0 [] w7 HJ7.out.bj.ok HJ7.out.unt (by omega) HJ7.out.bj.iv.cw (by have := HJ7.out.bj.iv.n0; omega)
      rw [er_ok HJ7.out.live H3.out (fau_zero HJ.out.un)] at HCn
      have HCC := Hid.of HCn
      clear HCn
      go_wp2_with fail
      refine HCC.out.mono ?_
      rintro e w8 ⟨rfl, s8, a8, p8⟩
      have e8 := p8.done HJ7.out.live H3.out (fau_zero HJ.out.un)
      have HJ8 := Hid.of (HJ7.out.stp a8 p8 (by decide))
      have HN8 := Hid.of (show s8.nf = s5.nf from sn_nf (s := acS s5) e8)
      have HS8 := Hid.of (Settled.sn (s := acS s5) (HJ7.out.bj.iv.set (s5.acts + 1) (s5.unt - 1) s5.flt s5.dead).cw e8)
      have HO8 := Hid.of (show FsO w8 w6.heap.size a7 fs7 c7 from HO7.out.fr a8.2.2 (fun b hb => by
        have := HJ6.out.bj.ok.lt hb
        omega))
      clear e8 a8 p8 HCC H3 HO7
      dsimp only
      have HPe := Pending_gen w8 HJ8.out.bj.ok
      rw [HS8.out.1, show lsd (fls s8) = 0 by
        refine lsd_zero (fun f hf => ?_)
        unfold fls at hf
        rw [HS8.out.2.1, List.append_nil, HN8.out] at hf
        obtain ⟨p, hp, rfl⟩ := List.mem_map.1 hf
        exact (HSy.out p hp).1] at HPe
      have HPe2 := Hid.of HPe
      clear HPe
      go_wp2_with fail
      refine HPe2.out.mono ?_
      rintro e w10 ⟨rfl, u10⟩
      have HJ10 := Hid.of (HJ8.out.upTo u10)
      have HO10 := Hid.of (HO8.out.up u10)
      clear u10 HPe2 HJ8 HO8
      dsimp only
      have HAf := Hid.of (after_gen _ D _ 2097152 s8 (.slice ac cs.length cc) cs w10 HJ10.out.bj.ok (HC.out.up HJ10.out.bj.up) (HJ10.out.bj.iv.cf (by omega)) (by have := HJ10.out.bj.iv.n0; omega) hcl (by omega))
      go_wp2_with fail
      refine HAf.out.mono ?_
      rintro e w11 ⟨a11, fs11, c11, gs, ws, rfl, o11, f11, k11, l11, q11⟩
      have HE11 := Hid.of (show fs11.map pr = fs7.map pr by
        rw [q11, l11.still HJ10.out.bj.ok.nD HS8.out.1 HS8.out.2.2 (fun p hp => HSy.out p (HN8.out ▸ hp)), HN8.out, HE7.out])
      have HO11 := Hid.of (And.intro o11 (HO10.out.fr f11 (fun b hb => by
        obtain rfl : b = D := hb
        have := lt_of_at HJ6.out.bj.ok.disk
        exact this)))
      have HK11 := Hid.of (And.intro k11 (up_disk (s := s8) HJ10.out.bj.up HJ10.out.bj.lo (f11.weak (fun _ hb => hb ▸ .inl rfl))))
      have HD11 := Hid.of (show D < w11.heap.size from lt_of_at k11.disk)
      clear o11 f11 k11 l11 q11 HAf gs ws HO10
      dsimp only
      have HAf := Hid.of (after_gen _ D _ 2097152 (ddS s8) (.slice none 0 0) [] w11 HK11.out.1 (si_nil _) ((HJ10.out.bj.iv.set s8.acts s8.unt s8.flt true).cf (by omega)) (by have := HJ10.out.bj.iv.n0; show s8.n0 + _ + _ ≤ _; omega) (by simp) (by omega))
      go_wp2_with fail
      refine HAf.out.mono ?_
      rintro e w12 ⟨a12, fs12, c12, gs, ws, rfl, o12, f12, k12, l12, q12⟩
      have HE12 := Hid.of (show fs12.map pr = fs7.map pr by
        rw [q12, l12.still (show ND (ddS s8) from HJ10.out.bj.ok.nD) HS8.out.1 HS8.out.2.2 (fun p hp => HSy.out p (HN8.out ▸ hp)), show (ddS s8).nf = s5.nf from HN8.out, HE7.out])
      have HO12 := Hid.of (show FsO w12 w11.heap.size a12 fs12 c12 ∧ FsO w12 w10.heap.size a11 fs11 c11 ∧ FsO w12 w6.heap.size a7 fs7 c7 from ⟨o12, HO11.out.1.fr f12 (fun b hb => by
        obtain rfl : b = D := hb
        exact lt_of_at HJ10.out.bj.ok.disk), HO11.out.2.fr f12 (fun b hb => by
        obtain rfl : b = D := hb
        exact lt_of_at HJ6.out.bj.ok.disk)⟩)
      have HK12 := Hid.of (up_disk (s := s8) HK11.out.2 HJ10.out.bj.lo (f12.weak (fun _ hb => hb ▸ .inl rfl)))
      clear o12 f12 k12 l12 q12 HAf gs ws HO11
      dsimp only
      have HL11 := Hid.of (show fs11.length ≤ 1099511627776 by
        have h5 := congrArg List.length HE11.out
        rw [List.length_map, List.length_map, HL7.out] at h5
        omega)
      have HL12 := Hid.of (show fs12.length ≤ 1099511627776 by
        have h5 := congrArg List.length HE12.out
        rw [List.length_map, List.length_map, HL7.out] at h5
        omega)
      go_wp2_with fail
      refine (sameFiles_yes a11 a7 fs11 fs7 c11 c7 w12 HO12.out.2.1.fsl HO12.out.2.2.fsl HE11.out HL11.out).mono ?_
      rintro e w13 ⟨rfl, u13⟩
      have HU13 := Hid.of u13
      clear u13
      dsimp only
      go_wp2_with fail
      refine (sameFiles_yes a12 a7 fs12 fs7 c12 c7 w13 (HO12.out.1.up HU13.out).fsl (HO12.out.2.2.up HU13.out).fsl HE12.out HL12.out).mono ?_
      rintro e w14 ⟨rfl, u14⟩
      have HU14 := Hid.of ((HK12.out.trans HU13.out).trans u14)
      clear u14
      dsimp only
      go_wp2
      go_ret
      exact ⟨rfl, HU14.out⟩
end Go.Proofs.YtaibjeehjhlicaaGreatDoor
