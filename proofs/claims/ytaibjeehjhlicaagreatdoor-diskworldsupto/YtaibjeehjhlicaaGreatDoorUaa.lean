import Derived.Test.YtaibjeehjhlicaaGreatDoorQbw
import Derived.Test.YtaibjeehjhlicaaGreatDoorQbx
namespace Go.Proofs.YtaibjeehjhlicaaGreatDoor
open Go.RowKit Go.Shelf TextNum ModNum
theorem sb_at {w : World} {b : Nat} {ds : List UInt8} (h : At w b 5 (cb ds)) (hl : ds.length ≤ maxLen) : Sb w (.slice (some ⟨b, 0, none⟩) ds.length ds.length) ds := by
  refine ⟨_, _, rfl, Nat.le_refl _, hl, fun e => (by cases e), fun ad e => ?_⟩
  obtain rfl := Option.some.inj e
  refine ⟨fun _ => rfl, fun j u hj => ?_⟩
  rw [Addr.add_lit]
  exact h.cell (i := 0 + j) (by rw [Nat.zero_add]; exact hj)
theorem er_ok {kd : Int} {nm to : ByteArray} {p : Int} {m : Nat} {s : DD} (hd : s.dead = false) (h0 : ownE kd nm to p m s = 0) (hf : fau s = 0) : erE kd nm to p m s = 0 := by
  rw [erE_live hd, if_pos h0, hf]
/-- an act that is done -/
theorem BJ.did {W w w' : World} {D T K : Nat} {s s' : DD} {kd : Int} {nm to : ByteArray} {p : Int} {ds : List UInt8} (h : BJ W w D T K s) (hd : s.dead = false) (a : AftX w w' W.heap.size D T s s') (e : Stp kd nm to p ds s s') (h0 : ownE kd nm to p ds.length s = 0) (hf : fau s = 0) (hm : ds.length ≤ 1048576) :
    BJ W w' D (T + 3) (K + 1) s' ∧ Eff kd nm to p ds (acS s) s' ∧ s'.dead = false ∧ s'.unt = s.unt - 1 ∧ s'.flt = s.flt ∧ s'.room = s.room := by
  obtain ⟨c1, c2, c3, c4⟩ := e.cnt hd
  exact ⟨h.stp a e hm, e.done hd h0 hf, e.lives hd (by rw [hf]; decide), c3, c4, c1⟩
theorem fau_zero {s : DD} (h : s.unt = 0) : fau s = 0 := by
  unfold fau
  rw [h, if_neg (by decide)]
theorem fsOf_one {l : List UInt8} {f : FL} : fsOf [(l, f)] = [(l, f.nb)] := by
  unfold fsOf srt nbOf
  simp
abbrev abN : ByteArray := ⟨#[97, 47, 98]⟩
theorem abN_nm : isNm abN.data.toList = true := by decide +kernel
/-- the names of one file -/
theorem cr_one {s s' : DD} {nm to : ByteArray} {p : Int} {ds : List UInt8} (h : s.nf = []) (e : Eff 3 nm to p ds s s') : ∃ F, s'.nf = [(nm.data.toList, fnew F)] := by
  obtain ⟨F, bp, b2, vC, vLo, rfl⟩ := eff_cr e
  refine ⟨F, ?_⟩
  show drp s.nf nm.data.toList ++ [(nm.data.toList, fnew F)] = _
  rw [h]
  rfl
theorem rpl_one {l : List UInt8} {f f' : FL} : rpl [(l, f)] f.b f' = [(l, f')] := by
  unfold rpl
  simp
theorem wr_sole {s s' : DD} {nm to : ByteArray} {p : Int} {ds : List UInt8} {g : FL} (h : s.nf = [(nm.data.toList, g)]) (hd : ds ≠ []) (e : Eff 4 nm to p ds s s') : ∃ f', s'.nf = [(nm.data.toList, f')] ∧ f'.nb = wr g.nb p.toNat ds := by
  obtain ⟨f, hf, _, y1⟩ := eff_wr e
  obtain ⟨vn, vo, vk, ba, bk, rfl⟩ := y1 hd
  rw [h] at hf
  obtain ⟨rfl⟩ : f = g := by
    have := List.mem_singleton.1 hf
    injection this
  refine ⟨wtF _ p.toNat ds vn vo vk ba bk s.trn, ?_, rfl⟩
  show rpl s.nf _ _ = _
  rw [h]
  exact rpl_one
theorem sy_one {s s' : DD} {nm to : ByteArray} {p : Int} {ds : List UInt8} {g : FL} (h : s.nf = [(nm.data.toList, g)]) (hly : ∀ f ∈ fls s, lay f.lb f.lo = f.nb) (e : Eff 5 nm to p ds s s') : ∃ f', s'.nf = [(nm.data.toList, f')] ∧ f'.nb = g.nb ∧ f'.lo = [] ∧ f'.lb = g.nb := by
  obtain ⟨f, v, hf, rfl⟩ := eff_sy e
  have hl := hly f (mem_fls_nf hf)
  rw [h] at hf
  obtain ⟨rfl⟩ : f = g := by
    have := List.mem_singleton.1 hf
    injection this
  refine ⟨syF _ v, ?_, rfl, rfl, hl⟩
  show rpl s.nf _ _ = _
  rw [h]
  exact rpl_one
theorem sn_nf {s s' : DD} {nm to : ByteArray} {p : Int} {ds : List UInt8} (e : Eff 6 nm to p ds s s') : s'.nf = s.nf := by
  obtain ⟨nL, dl, rfl⟩ := eff_sn e
  rfl
theorem si_nil (w : World) : SI w (.slice none 0 0) [] := ⟨none, 0, rfl, Nat.le_refl _, by simp [maxLen], fun _ => ⟨rfl, rfl⟩, fun ad e => by cases e⟩
theorem one_of {fs : List GF} {l ds : List UInt8} (h : fs.map pr = [(l, ds)]) : ∃ g, fs = [g] ∧ g.nm = ⟨l.toArray⟩ ∧ g.ds = ds := by
  match fs, h with
  | [g], h =>
    have h1 : pr g = (l, ds) := by
      have := h
      simpa using this
    injection h1 with h2 h3
    refine ⟨g, rfl, ?_, h3⟩
    rw [← h2]
theorem FsO.at {w : World} {N : Nat} {g : GF} {a : Option Addr} {c : Nat} (h : FsO w N a [g] c) : ∃ b, a = some ⟨b, 0, none⟩ ∧ w.cell? ⟨b, 0, none⟩ = some (.string g.nm) ∧ w.cell? ⟨b, 1, none⟩ = some g.v ∧ Sb w g.v g.ds ∧ 1 ≤ c := by
  have hr := h.row
  rcases hr.2 with ⟨_, h0⟩ | ⟨b, cap, cur, e, _, _, hnc, _⟩
  · cases h0
  · have e' := e
    injection e with e1 e2 e3
    have hc := fun j u hj => World.ownsRow.cells hr (g := b) (by rw [e1]; rfl) j u hj
    refine ⟨b, e1, ?_, ?_, Ow.sb (h.dat g (List.mem_singleton.2 rfl)), by rw [e3]; exact hnc⟩
    · have h5 := hc 0 (.string g.nm) rfl
      rw [Addr.add_lit] at h5
      exact h5
    · have h5 := hc 1 g.v rfl
      rw [Addr.add_lit] at h5
      exact h5
set_option maxRecDepth 100000 in
set_option maxHeartbeats 8000000 in
theorem head_walk (w : World) (hG : ML w) (hV : 0 < w.heap.size) :
    Calls Tryz.prog 10 #[] w fun e w' => e = .returned (.bool true) ∧ Up w w' := by
  have HNew := Hid.of (New_gen 10 w.heap.size (by omega) w hG (Nat.le_refl _) hV)
  clear hG hV
  go_enter Tryz.func10, Tryz.ntmps10
  go_wp2_with fail
  refine HNew.out.mono ?_
  rintro e w2 ⟨D, M, L, rfl, k2, l2, u2⟩
  obtain ⟨s0, hs0⟩ : ∃ s0, nwS 10 M L = s0 := ⟨_, rfl⟩
  have HJ0 := Hid.of (show BJ w w2 D 0 0 s0 ∧ s0.dead = false ∧ s0.unt = 0 ∧ s0.room = 10 ∧ s0.nf = [] from hs0 ▸ ⟨⟨k2, u2, l2, nwS_iv _ _ _⟩, rfl, rfl, rfl, rfl⟩)
  clear k2 l2 u2 HNew hs0
  have hpn : ∀ w', (binOp .eql 24 (.pointer (some ⟨D, 0, none⟩)) (.pointer none)).run Tryz.prog w' = .ok (.bool false) w' := fun w' => by kernel_rfl
  dsimp only
  have H0 := Hid.of (show ownE 3 abN abN 0 ([] : List UInt8).length s0 = 0 by rw [own3]; unfold nmE; rw [if_pos abN_nm])
  have HC := Create_all abN abN 0 [] w2 HJ0.out.1.ok (by rw [HJ0.out.2.2.1]; decide) (by omega)
  rw [er_ok HJ0.out.2.1 H0.out (fau_zero HJ0.out.2.2.1)] at HC
  have HCC := Hid.of HC
  clear HC
  go_wp2_with fail
  refine HCC.out.mono ?_
  rintro e w3 ⟨rfl, s1, a1, p1⟩
  obtain ⟨j1, e1, d1, t1, _, r1⟩ := HJ0.out.1.did HJ0.out.2.1 a1 p1 H0.out (fau_zero HJ0.out.2.2.1) (by decide)
  obtain ⟨F, n1⟩ := cr_one (s := acS s0) HJ0.out.2.2.2.2 e1
  have HJ1 := Hid.of (show BJ w w3 D 3 1 s1 ∧ s1.dead = false ∧ s1.unt = 0 ∧ s1.room = 10 ∧ s1.nf = [(abN.data.toList, fnew F)] from ⟨j1, d1, by rw [t1, HJ0.out.2.2.1], by rw [r1]; exact HJ0.out.2.2.2.1, n1⟩)
  clear a1 p1 j1 e1 d1 t1 r1 n1 HCC H0
  dsimp only
  have HB := Hid.of (at_new w3 5 [.int .u8 7])
  have HU := Hid.of ((Up.refl w3).alloc (.cells [.int .u8 7].toArray 5))
  have hfn := fnE_mem (s := s1) HJ1.out.1.ok.nms (l := abN.data.toList) (f := fnew F) (by rw [HJ1.out.2.2.2.2]; exact List.mem_singleton.2 rfl)
  have H1 := Hid.of (show ownE 4 abN abN 2 ([7] : List UInt8).length s1 = 0 by
    rw [own4, if_pos hfn, HJ1.out.2.2.2.2, HJ1.out.2.2.2.1, show usd [(abN.data.toList, fnew F)] = 0 from rfl, show nbOf [(abN.data.toList, fnew F)] abN.data.toList = [] by unfold nbOf; simp]
    decide)
  clear hfn
  have HC := Write_all abN abN 2 (.slice (some ⟨w3.heap.size, 0, none⟩) 1 1) [7] _ (HJ1.out.1.ok.up HU.out) (by rw [HJ1.out.2.2.1]; decide) (by omega) (sb_at (ds := [7]) HB.out (by decide)) (by
    intro e
    have h1 := Option.some.inj e
    have h2 := lt_of_at HJ1.out.1.ok.disk
    have h3 : w3.heap.size = D := h1
    omega) (by decide)
  rw [er_ok HJ1.out.2.1 H1.out (fau_zero HJ1.out.2.2.1)] at HC
  have HCC := Hid.of HC
  clear HC
  go_wp2_with fail
  refine HCC.out.mono ?_
  rintro e w4 ⟨rfl, s2, a2, p2⟩
  obtain ⟨j2, e2, d2, t2, _, r2⟩ := HJ1.out.1.did HJ1.out.2.1 (a2.up HU.out) p2 H1.out (fau_zero HJ1.out.2.2.1) (by decide)
  obtain ⟨f2, n2, b2⟩ := wr_sole (s := acS s1) HJ1.out.2.2.2.2 (by decide) e2
  have HJ2 := Hid.of (show BJ w w4 D 6 2 s2 ∧ s2.dead = false ∧ s2.unt = 0 ∧ s2.nf = [(abN.data.toList, f2)] ∧ f2.nb = [0, 0, 7] from ⟨j2, d2, by rw [t2, HJ1.out.2.2.1], n2, b2.trans (show wr [] 2 [7] = [0, 0, 7] by decide +kernel)⟩)
  clear a2 p2 j2 e2 d2 t2 r2 n2 b2 HCC H1 HB HU
  dsimp only
  have hfn := fnE_mem (s := s2) HJ2.out.1.ok.nms (l := abN.data.toList) (f := f2) (by rw [HJ2.out.2.2.2.1]; exact List.mem_singleton.2 rfl)
  have H2 := Hid.of (show ownE 5 abN abN 0 ([] : List UInt8).length s2 = 0 by rw [own5]; exact hfn)
  clear hfn
  have HC := Sync_all abN abN 0 [] w4 HJ2.out.1.ok (by rw [HJ2.out.2.2.1]; decide) (by omega) HJ2.out.1.iv.ly
  rw [er_ok HJ2.out.2.1 H2.out (fau_zero HJ2.out.2.2.1)] at HC
  have HCC := Hid.of HC
  clear HC
  go_wp2_with fail
  refine HCC.out.mono ?_
  rintro e w5 ⟨rfl, s3, a3, p3⟩
  obtain ⟨j3, e3, d3, t3, _, r3⟩ := HJ2.out.1.did HJ2.out.2.1 a3 p3 H2.out (fau_zero HJ2.out.2.2.1) (by decide)
  obtain ⟨f3, n3, b3, c3, g3⟩ := sy_one (s := acS s2) HJ2.out.2.2.2.1 HJ2.out.1.iv.ly e3
  have HJ3 := Hid.of (show BJ w w5 D 9 3 s3 ∧ s3.dead = false ∧ s3.unt = 0 ∧ s3.nf = [(abN.data.toList, f3)] ∧ f3.nb = [0, 0, 7] ∧ f3.lo = [] ∧ f3.lb = f3.nb from ⟨j3, d3, by rw [t3, HJ2.out.2.2.1], n3, b3.trans HJ2.out.2.2.2.2, c3, g3.trans b3.symm⟩)
  clear a3 p3 j3 e3 d3 t3 r3 n3 b3 c3 g3 HCC H2
  dsimp only
  have H3 := Hid.of (own6 abN abN 0 ([] : List UInt8).length s3)
  have HC := SyncNames_all abN abN 0 [] w5 HJ3.out.1.ok (by rw [HJ3.out.2.2.1]; decide) (by omega) HJ3.out.1.iv.cw (by have := HJ3.out.1.iv.n0; omega)
  rw [er_ok HJ3.out.2.1 H3.out (fau_zero HJ3.out.2.2.1)] at HC
  have HCC := Hid.of HC
  clear HC
  go_wp2_with fail
  refine HCC.out.mono ?_
  rintro e w6 ⟨rfl, s4, a4, p4⟩
  obtain ⟨j4, e4, d4, t4, _, r4⟩ := HJ3.out.1.did HJ3.out.2.1 a4 p4 H3.out (fau_zero HJ3.out.2.2.1) (by decide)
  have HJ4 := Hid.of (show BJ w w6 D 12 4 s4 ∧ s4.nf = [(abN.data.toList, f3)] ∧ Settled s4 from ⟨j4, (sn_nf e4).trans HJ3.out.2.2.2.1, Settled.sn (s := acS s3) (HJ3.out.1.iv.set (s3.acts + 1) (s3.unt - 1) s3.flt s3.dead).cw e4⟩)
  clear a4 p4 j4 e4 d4 t4 r4 HCC H3 hpn
  dsimp only
  have HAf := Hid.of (after_gen _ D 12 2097152 s4 (.slice none 0 0) [] w6 HJ4.out.1.ok (si_nil _) (HJ4.out.1.iv.cf (by omega)) (by have := HJ4.out.1.iv.n0; omega) (by simp) (by omega))
  go_wp2_with fail
  refine HAf.out.mono ?_
  rintro e w7 ⟨a7, fs, c7, gs, ws, rfl, o7, f7, k7, l7, q7⟩
  have hst : fs.map pr = [(abN.data.toList, [0, 0, 7])] := by
    rw [q7, l7.still HJ4.out.1.ok.nD HJ4.out.2.2.1 HJ4.out.2.2.2.2 (fun p hp => by
      rw [HJ4.out.2.1] at hp
      obtain rfl := List.mem_singleton.1 hp
      exact HJ3.out.2.2.2.2.2), HJ4.out.2.1, fsOf_one, HJ3.out.2.2.2.2.1]
  obtain ⟨g, rfl, hgn, hgd⟩ := one_of hst
  obtain ⟨b, rfl, cc0, cc1, sb1, hc7⟩ := o7.at
  rw [hgn] at cc0
  rw [hgd] at sb1
  have HU7 := Hid.of (show Up w w7 from up_disk (s := s4) HJ4.out.1.up HJ4.out.1.lo (f7.weak (fun _ hb => hb ▸ .inl rfl)))
  obtain ⟨av, cv, hv, _⟩ := id sb1
  rw [hv] at cc1 sb1
  have hcv : (convert 41 9 (.slice av 3 cv)).run Tryz.prog w7 = .ok (.string ⟨#[0, 0, 7]⟩) w7 := conv_sb2 sb1
  have hc7z : (1 : Int) ≤ (c7 : Int) := by omega
  clear hst q7 l7 k7 f7 o7 HAf sb1 hv hgn hgd
  dsimp only

  go_wp2
  go_ret
  exact ⟨rfl, HU7.out⟩
end Go.Proofs.YtaibjeehjhlicaaGreatDoor
namespace Go.Proofs.YtaibjeehjhlicaaGreatDoor
open Go.RowKit Go.Shelf TextNum ModNum
theorem FsO.fr {S : Nat → Prop} {w w' : World} {N : Nat} {a : Option Addr} {fs : List GF} {c : Nat} (h : FsO w N a fs c) (k : Fr S w w') (hS : ∀ b, S b → b < N) : FsO w' N a fs c :=
  ⟨k.own h.row (fun g hg hs => by have := (World.ownsRow.lt h.row g hg).1; have := hS g hs; omega), fun g hg => k.own (h.dat g hg) (fun b hb hs => by have := (World.ownsRow.lt (h.dat g hg) b hb).1; have := hS b hs; omega)⟩
/-- a list of texts beside the disk -/
structure RN (w : World) (N D : Nat) (s : DD) (v : Value) (xs : List (List UInt8)) : Prop where
  row : OwS w N v xs
  no : ∀ k, v.ownBlock = some k → ¬ own D s k
theorem RN.up {w w' : World} {N D : Nat} {s : DD} {v : Value} {xs : List (List UInt8)} (h : RN w N D s v xs) (u : Up w w') : RN w' N D s v xs := ⟨ow_up h.row u, h.no⟩
theorem RN.disk {w w' : World} {N D : Nat} {s s' : DD} {v : Value} {xs : List (List UInt8)} (h : RN w N D s v xs) (f : Fr (own D s) w w') (n : Nw w.heap.size D s s') : RN w' N D s' v xs :=
  ⟨f.own h.row h.no, fun k hk ho => by
    rcases n k ho with h1 | h1
    · exact h.no k hk h1
    · have := (World.ownsRow.lt h.row k hk).2; omega⟩
/-- which files are synced -/
def Syd (s : DD) (L : List (List UInt8)) : Prop := ∀ p ∈ s.nf, p.1 ∈ L → p.2.lo = [] ∧ p.2.lb = p.2.nb
theorem Syd.sy {s s' : DD} {L : List (List UInt8)} {nm to : ByteArray} {p : Int} {ds : List UInt8} (h : Syd s L) (n : ND s) (hly : ∀ f ∈ fls s, lay f.lb f.lo = f.nb) (e : Eff 5 nm to p ds s s') : Syd s' (L ++ [nm.data.toList]) ∧ s'.nf.map (·.1) = s.nf.map (·.1) := by
  obtain ⟨f, v, hf, rfl⟩ := eff_sy e
  refine ⟨fun q hq hl => ?_, rpl_keys _ _ _⟩
  rcases mem_rpl (show q ∈ rpl s.nf f.b (syF f v) from hq) with ⟨q2, h2, h3, rfl⟩ | ⟨h2, h3⟩
  · exact ⟨rfl, hly f (mem_fls_nf hf)⟩
  · rcases List.mem_append.1 hl with h4 | h4
    · exact h q h2 h4
    · obtain ⟨ql, qf⟩ := q
      have h4 : ql = nm.data.toList := List.mem_singleton.1 h4
      subst h4
      exact absurd (congrArg FL.b (nd_val n.1 h2 hf)) h3
theorem lsd_zero' {fs : List FL} (h : ∀ f ∈ fs, f.lo = []) : lsd fs = 0 := lsd_zero h
/-- what DiskLasts' loop keeps -/
structure LJ2 (W w : World) (N D T K : Nat) (s : DD) (v : Value) (L : List (List UInt8)) (i : Nat) : Prop where
  bg : BG W w D T K s
  un : s.unt = 0
  rn : RN w N D s v L
  nm : L = srt (s.nf.map (·.1))
  sy : Syd s (L.take i)
set_option maxRecDepth 100000 in
set_option maxHeartbeats 16000000 in
theorem lasts_walk (a : Option Addr) (os : List OP) (c : Nat) (vc : Value) (cs : List Int) (w : World) (hP : SCR w a os c) (hC : SI w vc cs) (hcl : cs.length ≤ 17592186044416) (hll : os.length ≤ 4611686018427387904) (hG : ML w) (hV : 0 < w.heap.size) :
    Calls Tryz.prog 3 #[.slice a os.length c, vc] w fun e w' => e = .returned (.bool true) ∧ Up w w' := by
  have HC := Hid.of hC
  obtain ⟨ac, cc, rfl, _⟩ := id hC
  have HBe := Hid.of (begun_walk a os c w hP hll hG hV)
  have HV := Hid.of hV
  clear hP hG hV hC
  go_enter Tryz.func3, Tryz.ntmps3
  go_wp2_with fail
  refine HBe.out.mono ?_
  rintro e w2 ⟨D, s, rfl, b2⟩
  have HB2 := Hid.of b2
  clear b2 HBe
  have hpn : ∀ w', (binOp .eql 24 (.pointer (some ⟨D, 0, none⟩)) (.pointer none)).run Tryz.prog w' = .ok (.bool false) w' := fun w' => by kernel_rfl
  dsimp only
  have HH := Hid.of (head_walk w2 HB2.out.bj.ok.ml (by have := HV.out; have := HB2.out.bj.up.size; omega))
  go_wp2_with fail
  refine HH.out.mono ?_
  rintro e w3 ⟨rfl, u3⟩
  have HB3 := Hid.of (HB2.out.upTo u3)
  clear u3 HH HB2
  dsimp only
  have HF := Hid.of (Fail_ok 0 124 w3 HB3.out.bj.ok HB3.out.live (by decide) (by omega))
  go_wp2_with fail
  refine HF.out.mono ?_
  rintro e w4 ⟨rfl, k4, f4⟩
  have HB4 := Hid.of (show BG w w4 D 601 200 (faS s 0 124) from ⟨HB3.out.bj.fail k4 f4, HB3.out.live, by show (0 : Int).toNat ≤ _; decide, by show (124 : Int) ≠ 125; decide, HB3.out.room⟩)
  have HN4 := Hid.of (show (faS s 0 124).unt = 0 from rfl)
  clear k4 f4 HF HB3
  generalize faS s 0 124 = s4 at *
  dsimp only
  have HLi := Hid.of (List_dd ⟨#[]⟩ w4 HB4.out.bj.ok HB4.out.live)
  go_wp2_with fail
  refine HLi.out.mono ?_
  rintro e w5 ⟨v5, rfl, q5, u5⟩
  obtain ⟨Ls, hLs⟩ : ∃ Ls, Ls = srt (s4.nf.map (·.1)) := ⟨_, rfl⟩
  replace q5 : OwS w5 w4.heap.size v5 Ls := by rw [hLs, ← lsN_all]; exact q5
  have HJ5 := Hid.of (show LJ2 w w5 w4.heap.size D 601 200 s4 v5 Ls 0 from ⟨HB4.out.upTo u5, HN4.out, ⟨q5, fun k hk ho => by
    have h1 := (World.ownsRow.lt q5 k hk).1
    have h2 := HB4.out.bj.ok.lt ho
    omega⟩, hLs, fun p hp hl => by
    rw [List.take_zero] at hl
    cases hl⟩)
  have HLl := Hid.of (show Ls.length ≤ 200 by
    rw [hLs, srt_len, List.length_map]
    have := HB4.out.bj.iv.cnt
    unfold fls at this
    rw [List.length_append, List.length_map] at this
    omega)
  obtain ⟨al, cl, rfl⟩ := row_len q5
  obtain ⟨n, hn⟩ : ∃ n, Ls.length = n := ⟨_, rfl⟩
  have hcl5 : n ≤ cl := by
    obtain ⟨a', c', e1, e2, _⟩ := OwS.sl q5
    injection e1 with e3 e4 e5
    omega
  have HN := Hid.of hn
  rw [hn] at HLl HJ5 ⊢
  have hclz : (n : Int) ≤ (cl : Int) := by omega
  have hnl : n ≤ 200 := HLl.out
  clear q5 u5 HLi hLs HB4 HN4 HLl hn
  dsimp only
  go_wp2
  go_loopw [7] (fun v7 wr => ∃ i : Nat, v7 = .int .i64 (i : Int) ∧ i ≤ n ∧ Hid (∃ s, LJ2 w wr w4.heap.size D (601 + 3 * i) (200 + i) s (.slice al n cl) Ls i)) (fun v7 _ => n - (intOf v7).toNat)
  case atStart => exact ⟨0, rfl, by omega, Hid.of ⟨_, HJ5.out⟩⟩
  case round =>
    obtain ⟨i, rfl, hi, hR⟩ := hrel
    obtain ⟨s5, hJ⟩ := hR.out
    have HJ := Hid.of hJ
    clear hR hJ HJ5 hpn
    by_cases hlt : i < n
    · have hltz : (i : Int) < (n : Int) := by omega
      have hil : i < Ls.length := by rw [HN.out]; exact hlt
      obtain ⟨x, hx⟩ : ∃ x, Ls[i] = x := ⟨_, rfl⟩
      have hrow := HJ.out.rn.row
      have k1 : ∃ g, al = some ⟨g, 0, none⟩ ∧ wr.cell? ⟨g, i, none⟩ = some (.string ⟨x.toArray⟩) := by
        rcases hrow.2 with ⟨e1, h0⟩ | ⟨g, cap, cur, e1, _⟩
        · rw [h0] at hil; exact absurd hil (Nat.not_lt_zero _)
        · injection e1 with e2 e3 e4
          refine ⟨g, e2, ?_⟩
          have h5 := World.ownsRow.cells hrow (g := g) (by rw [e2]; rfl) i _ (cst_get hil)
          rw [Addr.add_lit, Nat.zero_add, hx] at h5
          exact h5
      obtain ⟨g, rfl, k1⟩ := k1
      have hfx : ∃ f, (x, f) ∈ s5.nf := by
        have h5 : x ∈ Ls := by rw [← hx]; exact List.getElem_mem hil
        rw [HJ.out.nm, srt_mem] at h5
        obtain ⟨⟨l, f⟩, hp, rfl⟩ := List.mem_map.1 h5
        exact ⟨f, hp⟩
      obtain ⟨f, hf⟩ := hfx
      have HX := Hid.of (show Ls.take (i + 1) = Ls.take i ++ [x] by rw [List.take_succ_eq_append_getElem hil, hx])
      have H0 := Hid.of (show ownE 5 ⟨x.toArray⟩ ⟨x.toArray⟩ 0 ([] : List UInt8).length s5 = 0 by
        rw [own5]
        exact fnE_mem HJ.out.bg.bj.ok.nms hf)
      have HC5 := Sync_all ⟨x.toArray⟩ ⟨x.toArray⟩ 0 [] wr HJ.out.bg.bj.ok HJ.out.bg.unt (by omega) HJ.out.bg.bj.iv.ly
      rw [er_ok HJ.out.bg.live H0.out (fau_zero HJ.out.un)] at HC5
      have HCC := Hid.of HC5
      clear HC5 hrow hf hx
      go_wp2_with fail
      refine HCC.out.mono ?_
      rintro e w9 ⟨rfl, s9, a9, p9⟩
      have HJ9 := Hid.of (show LJ2 w w9 w4.heap.size D (601 + 3 * (i + 1)) (200 + (i + 1)) s9 (.slice (some ⟨g, 0, none⟩) n cl) Ls (i + 1) from by
        have e9 := p9.done HJ.out.bg.live H0.out (fau_zero HJ.out.un)
        obtain ⟨c1, c2, c3, c4⟩ := p9.cnt HJ.out.bg.live
        obtain ⟨y1, y2⟩ := Syd.sy (s := acS s5) HJ.out.sy HJ.out.bg.bj.ok.nD HJ.out.bg.bj.iv.ly e9
        refine ⟨HJ.out.bg.stp a9 p9 (by decide), by rw [c3, HJ.out.un], HJ.out.rn.disk a9.2.2 a9.2.1, ?_, by rw [HX.out]; exact y1⟩
        rw [HJ.out.nm]
        exact congrArg srt y2.symm)
      clear a9 p9 HCC H0 HX k1
      dsimp only
      go_wp2
      go_roundw
      all_goals first
        | exact ⟨i + 1, by go_num, by omega, Hid.of ⟨s9, HJ9.out⟩⟩
        | (simp [intOf]; omega)
    · have hie : i = n := by omega
      subst hie
      have hltz : ¬ (i : Int) < (i : Int) := by omega
      have HSy := Hid.of (show ∀ p ∈ s5.nf, p.2.lo = [] ∧ p.2.lb = p.2.nb from fun p hp => HJ.out.sy p hp (by
        rw [List.take_of_length_le (by rw [HN.out]; exact Nat.le_refl _), HJ.out.nm, srt_mem]
        exact List.mem_map_of_mem hp))
      have HFl := Hid.of (Files_gen wr HJ.out.bg.bj.ok HJ.out.bg.live (by
        have h5 := congrArg List.length HJ.out.nm
        rw [srt_len, List.length_map, HN.out] at h5
        omega))
      go_wp2_with fail
      refine HFl.out.mono ?_
      rintro e w6 ⟨a6, fs6, c6, rfl, o6, u6, e6⟩
      have HO6 := Hid.of o6
      have HE6 := Hid.of (show fs6.map pr = fsOf s5.nf from e6)
      have HJ6 := Hid.of (HJ.out.bg.upTo u6)
      have HL6 := Hid.of (show fs6.length = i by
        have h5 := congrArg List.length e6
        rw [List.length_map] at h5
        rw [h5]
        unfold fsOf
        rw [List.length_map, ← HJ.out.nm, HN.out])
      have HU6 := Hid.of u6.size
      clear o6 u6 e6 HFl
      dsimp only
      go_wp2_with fail
      refine (copies_walk a6 c6 fs6 w6 HO6.out.fsl (by have := HL6.out; omega) (fun g hg => by
        have h5 : pr g ∈ fsOf s5.nf := by rw [← HE6.out]; exact List.mem_map_of_mem hg
        unfold fsOf at h5
        obtain ⟨l, hl, e5⟩ := List.mem_map.1 h5
        obtain ⟨p, hp, rfl⟩ := List.mem_map.1 (srt_mem.1 hl)
        rw [nbOf_mem HJ6.out.bj.ok.nd hp] at e5
        have e7 : p.2.nb = g.ds := congrArg Prod.snd e5
        rw [← e7]
        exact (HJ6.out.bj.ok.sz p.2 (List.mem_append_left _ (List.mem_map_of_mem hp))).1)).mono ?_
      rintro e w7 ⟨a7, fs7, c7, rfl, o7, u7, e7⟩
      have HO7 := Hid.of o7
      have HE7 := Hid.of (show fs7.map pr = fsOf s5.nf from e7.trans HE6.out)
      have HJ7 := Hid.of (HJ6.out.upTo u7)
      have HL7 := Hid.of (show fs7.length = i by
        have h5 := congrArg List.length e7
        rw [List.length_map, List.length_map] at h5
        rw [h5, HL6.out])
      have hl7 : (fs7.length : Int) = (i : Int) := by rw [HL7.out]
      clear o7 u7 e7 HO6 HE6 HL6
      dsimp only
      have H3 := Hid.of (own6 abN abN 0 ([] : List UInt8).length s5)
      have HCn := SyncNames_all abN abN 0 [] w7 HJ7.out.bj.ok HJ7.out.unt (by omega) HJ7.out.bj.iv.cw (by have := HJ7.out.bj.iv.n0; omega)
      rw [er_ok HJ7.out.live H3.out (fau_zero HJ.out.un)] at HCn
      have HCC := Hid.of HCn
      clear HCn
      go_wp2_with fail
      refine HCC.out.mono ?_
      rintro e w8 ⟨rfl, s8, a8, p8⟩
      have e8 := p8.done HJ7.out.live H3.out (fau_zero HJ.out.un)
      have HJ8 := Hid.of (HJ7.out.stp a8 p8 (by decide))
      have HN8 := Hid.of (show s8.nf = s5.nf from sn_nf (s := acS s5) e8)
      have HS8 := Hid.of (Settled.sn (s := acS s5) (HJ7.out.bj.iv.set (s5.acts + 1) (s5.unt - 1) s5.flt s5.dead).cw e8)
      have HO8 := Hid.of (show FsO w8 w6.heap.size a7 fs7 c7 from HO7.out.fr a8.2.2 (fun b hb => by
        have := HJ6.out.bj.ok.lt hb
        omega))
      clear e8 a8 p8 HCC H3 HO7
      dsimp only
      have HPe := Pending_gen w8 HJ8.out.bj.ok
      rw [HS8.out.1, show lsd (fls s8) = 0 by
        refine lsd_zero (fun f hf => ?_)
        unfold fls at hf
        rw [HS8.out.2.1, List.append_nil, HN8.out] at hf
        obtain ⟨p, hp, rfl⟩ := List.mem_map.1 hf
        exact (HSy.out p hp).1] at HPe
      have HPe2 := Hid.of HPe
      clear HPe
      go_wp2_with fail
      refine HPe2.out.mono ?_
      rintro e w10 ⟨rfl, u10⟩
      have HJ10 := Hid.of (HJ8.out.upTo u10)
      have HO10 := Hid.of (HO8.out.up u10)
      clear u10 HPe2 HJ8 HO8
      dsimp only
      have HAf := Hid.of (after_gen _ D _ 2097152 s8 (.slice ac cs.length cc) cs w10 HJ10.out.bj.ok (HC.out.up HJ10.out.bj.up) (HJ10.out.bj.iv.cf (by omega)) (by have := HJ10.out.bj.iv.n0; omega) hcl (by omega))
      go_wp2_with fail
      refine HAf.out.mono ?_
      rintro e w11 ⟨a11, fs11, c11, gs, ws, rfl, o11, f11, k11, l11, q11⟩
      have HE11 := Hid.of (show fs11.map pr = fs7.map pr by
        rw [q11, l11.still HJ10.out.bj.ok.nD HS8.out.1 HS8.out.2.2 (fun p hp => HSy.out p (HN8.out ▸ hp)), HN8.out, HE7.out])
      have HO11 := Hid.of (And.intro o11 (HO10.out.fr f11 (fun b hb => by
        obtain rfl : b = D := hb
        have := lt_of_at HJ6.out.bj.ok.disk
        exact this)))
      have HK11 := Hid.of (And.intro k11 (up_disk (s := s8) HJ10.out.bj.up HJ10.out.bj.lo (f11.weak (fun _ hb => hb ▸ .inl rfl))))
      have HD11 := Hid.of (show D < w11.heap.size from lt_of_at k11.disk)
      clear o11 f11 k11 l11 q11 HAf gs ws HO10
      dsimp only
      have HAf := Hid.of (after_gen _ D _ 2097152 (ddS s8) (.slice none 0 0) [] w11 HK11.out.1 (si_nil _) ((HJ10.out.bj.iv.set s8.acts s8.unt s8.flt true).cf (by omega)) (by have := HJ10.out.bj.iv.n0; show s8.n0 + _ + _ ≤ _; omega) (by simp) (by omega))
      go_wp2_with fail
      refine HAf.out.mono ?_
      rintro e w12 ⟨a12, fs12, c12, gs, ws, rfl, o12, f12, k12, l12, q12⟩
      have HE12 := Hid.of (show fs12.map pr = fs7.map pr by
        rw [q12, l12.still (show ND (ddS s8) from HJ10.out.bj.ok.nD) HS8.out.1 HS8.out.2.2 (fun p hp => HSy.out p (HN8.out ▸ hp)), show (ddS s8).nf = s5.nf from HN8.out, HE7.out])
      have HO12 := Hid.of (show FsO w12 w11.heap.size a12 fs12 c12 ∧ FsO w12 w10.heap.size a11 fs11 c11 ∧ FsO w12 w6.heap.size a7 fs7 c7 from ⟨o12, HO11.out.1.fr f12 (fun b hb => by
        obtain rfl : b = D := hb
        exact lt_of_at HJ10.out.bj.ok.disk), HO11.out.2.fr f12 (fun b hb => by
        obtain rfl : b = D := hb
        exact lt_of_at HJ6.out.bj.ok.disk)⟩)
      have HK12 := Hid.of (up_disk (s := s8) HK11.out.2 HJ10.out.bj.lo (f12.weak (fun _ hb => hb ▸ .inl rfl)))
      clear o12 f12 k12 l12 q12 HAf gs ws HO11
      dsimp only
      have HL11 := Hid.of (show fs11.length ≤ 1099511627776 by
        have h5 := congrArg List.length HE11.out
        rw [List.length_map, List.length_map, HL7.out] at h5
        omega)
      have HL12 := Hid.of (show fs12.length ≤ 1099511627776 by
        have h5 := congrArg List.length HE12.out
        rw [List.length_map, List.length_map, HL7.out] at h5
        omega)
      go_wp2_with fail
      refine (sameFiles_yes a11 a7 fs11 fs7 c11 c7 w12 HO12.out.2.1.fsl HO12.out.2.2.fsl HE11.out HL11.out).mono ?_
      rintro e w13 ⟨rfl, u13⟩
      have HU13 := Hid.of u13
      clear u13
      dsimp only
      go_wp2_with fail
      refine (sameFiles_yes a12 a7 fs12 fs7 c12 c7 w13 (HO12.out.1.up HU13.out).fsl (HO12.out.2.2.up HU13.out).fsl HE12.out HL12.out).mono ?_
      rintro e w14 ⟨rfl, u14⟩
      have HU14 := Hid.of ((HK12.out.trans HU13.out).trans u14)
      clear u14
      dsimp only
      go_wp2
      go_ret
      exact ⟨rfl, HU14.out⟩
end Go.Proofs.YtaibjeehjhlicaaGreatDoor
namespace Go.Proofs.YtaibjeehjhlicaaGreatDoor
open Go.RowKit Go.Shelf TextNum ModNum
abbrev hdN : ByteArray := ⟨#[104, 101, 97, 100]⟩
abbrev hnN : ByteArray := ⟨#[104, 101, 97, 100, 46, 110, 101, 119]⟩
theorem hdN_nm : isNm hdN.data.toList = true := by decide +kernel
theorem hnN_nm : isNm hnN.data.toList = true := by decide +kernel
theorem hd_hn : hdN.data.toList ≠ hnN.data.toList := by decide
/-- the old bytes are what head stands for, whatever lasts of the names' acts -/
def Ald (s : DD) (old : List UInt8) : Prop := ∃ f0, (hdN.data.toList, f0) ∈ s.nf ∧ f0.lo = [] ∧ f0.lb = old ∧ ∀ k, nrun (s.chs.take k) s.las hdN.data.toList = some f0.b
def Bld (s : DD) (old now : List UInt8) : Prop := ∀ k, ∃ f, f ∈ fls s ∧ nrun (s.chs.take k) s.las hdN.data.toList = some f.b ∧ f.lo = [] ∧ (f.lb = old ∨ f.lb = now)
/-- the disk when m of the five acts are done -/
def QS (old now : List UInt8) (m : Nat) (s : DD) : Prop :=
  (m = 0 ∧ Settled s ∧ Has s hdN.data.toList old true) ∨ (m = 1 ∧ Ald s old ∧ Has s hnN.data.toList [] false) ∨ (m = 2 ∧ Ald s old ∧ Has s hnN.data.toList now false) ∨ (m = 3 ∧ Ald s old ∧ Has s hnN.data.toList now true) ∨ (m = 4 ∧ Bld s old now ∧ Has s hdN.data.toList now true) ∨ (m = 5 ∧ Settled s ∧ Has s hdN.data.toList now true)
theorem QS.set {old now : List UInt8} {m : Nat} {s : DD} (h : QS old now m s) (a u : Nat) (fl : Int) (dd : Bool) : QS old now m { s with acts := a, unt := u, flt := fl, dead := dd } := h
theorem take_snoc {α : Type} (l : List α) (c : α) (k : Nat) : (l ++ [c]).take k = l.take k ∨ ((l ++ [c]).take k = l ++ [c] ∧ l.take k = l) := by
  rcases Nat.lt_or_ge l.length k with hk | hk
  · right
    exact ⟨List.take_of_length_le (by rw [List.length_append, List.length_singleton]; omega), List.take_of_length_le (by omega)⟩
  · left
    rw [List.take_append_of_le_length hk]
theorem QS.cr {old now : List UInt8} {s s' : DD} (n : ND s) {to : ByteArray} {p : Int} {ds : List UInt8} (h : QS old now 0 s) (e : Eff 3 hnN to p ds s s') : QS old now 1 s' := by
  rcases h with ⟨_, ⟨h1, h2, h3⟩, f, hf, q1, q2⟩ | ⟨h, _⟩ | ⟨h, _⟩ | ⟨h, _⟩ | ⟨h, _⟩ | ⟨h, _⟩
  · refine .inr (.inl ⟨rfl, ?_, Has.cr e⟩)
    obtain ⟨F, bp, b2, vC, vLo, rfl⟩ := eff_cr e
    obtain ⟨q3, q4⟩ := q2 rfl
    have hlas : s.las hdN.data.toList = some f.b := by rw [h3]; exact nmOf_mem n.1 hf
    refine ⟨f, List.mem_append_left _ (mem_drp_other hf hd_hn), q3, q4, fun k => ?_⟩
    show nrun ((s.chs ++ [_]).take k) s.las hdN.data.toList = _
    rw [h1, List.nil_append]
    cases k with
    | zero => exact hlas
    | succ k =>
      rw [List.take_succ_cons, List.take_nil]
      show nac ⟨0, hnN, hnN, F, bp, b2⟩ s.las hdN.data.toList = _
      unfold nac
      rw [if_pos rfl]
      unfold nput
      rw [if_neg hd_hn]
      exact hlas
  all_goals cases h
theorem Ald.fl {s : DD} (n : ND s) {l : List UInt8} {f f' : FL} (hf : (l, f) ∈ s.nf) {t : Nat} {old : List UInt8} (h : Ald s old) (hl : hdN.data.toList ≠ l) : Ald (flS s f.b f' t) old := by
  obtain ⟨f0, h1, h2, h3, h4⟩ := h
  refine ⟨f0, mem_rpl_other h1 (fun e => hl ?_), h2, h3, h4⟩
  have := nd_inj n.nfb h1 hf e
  injection this
theorem QS.wr {old now : List UInt8} {s s' : DD} (n : ND s) {to : ByteArray} (h : QS old now 1 s) (e : Eff 4 hnN to 0 now s s') : QS old now 2 s' := by
  rcases h with ⟨h, _⟩ | ⟨_, h1, h2⟩ | ⟨h, _⟩ | ⟨h, _⟩ | ⟨h, _⟩ | ⟨h, _⟩
  · cases h
  · refine .inr (.inr (.inl ⟨rfl, ?_, ?_⟩))
    · obtain ⟨f, hf, x1, y1⟩ := eff_wr e
      by_cases hd : now = []
      · rw [x1 hd]; exact h1
      · obtain ⟨vn, vo, vk, ba, bk, rfl⟩ := y1 hd
        exact h1.fl n hf hd_hn
    · have h3 := Has.wr n e h2
      by_cases hd : now = []
      · rw [if_pos hd] at h3; rw [hd]; exact h3
      · rw [if_neg hd] at h3
        have e3 : Go.Proofs.YtaibjeehjhlicaaGreatDoor.wr [] (Int.toNat 0) now = now := wr_nil now
        rw [e3] at h3
        exact h3
  all_goals cases h
theorem QS.sy {old now : List UInt8} {s s' : DD} (n : ND s) (hly : ∀ f ∈ fls s, lay f.lb f.lo = f.nb) {to : ByteArray} {p : Int} {ds : List UInt8} (h : QS old now 2 s) (e : Eff 5 hnN to p ds s s') : QS old now 3 s' := by
  rcases h with ⟨h, _⟩ | ⟨h, _⟩ | ⟨_, h1, h2⟩ | ⟨h, _⟩ | ⟨h, _⟩ | ⟨h, _⟩
  · cases h
  · cases h
  · refine .inr (.inr (.inr (.inl ⟨rfl, ?_, Has.sy n hly e h2⟩)))
    obtain ⟨f, v, hf, rfl⟩ := eff_sy e
    exact h1.fl n hf hd_hn
  all_goals cases h
theorem QS.rn {old now : List UInt8} {s s' : DD} (n : ND s) (hc : CW s) {p : Int} {ds : List UInt8} (h : QS old now 3 s) (e : Eff 7 hnN hdN p ds s s') : QS old now 4 s' := by
  rcases h with ⟨h, _⟩ | ⟨h, _⟩ | ⟨h, _⟩ | ⟨_, ⟨f0, g1, g2, g3, g4⟩, h2⟩ | ⟨h, _⟩ | ⟨h, _⟩
  · cases h
  · cases h
  · cases h
  · refine .inr (.inr (.inr (.inr (.inl ⟨rfl, fun k => ?_, Has.rn n e h2⟩))))
    obtain ⟨f, b1, b2, vC, vLo, hf, rfl⟩ := eff_rn e
    obtain ⟨f1, hf1, q1, q2⟩ := h2
    obtain rfl := nd_val n.1 hf hf1
    have P := rnS_perm (s := s) (nm := hnN) (tm := hdN) (f := f) (b1 := b1) (b2 := b2) (vC := vC) (vLo := vLo) n.1 (gone_of n.1 hf)
    obtain ⟨q3, q4⟩ := q2 rfl
    rcases take_snoc s.chs ⟨2, hnN, hdN, 0, b1, b2⟩ k with hk | ⟨hk, hk2⟩
    · refine ⟨f0, P.mem_iff.2 (mem_fls_nf g1), ?_, g2, .inl g3⟩
      show nrun ((s.chs ++ [_]).take k) s.las hdN.data.toList = _
      rw [hk]
      exact g4 k
    · refine ⟨f, P.mem_iff.2 (mem_fls_nf hf), ?_, q3, .inr q4⟩
      show nrun ((s.chs ++ [_]).take k) s.las hdN.data.toList = _
      rw [hk, nrun_snoc, nac_rename (b := f.b) (by rw [hc.now]; exact nmOf_mem n.1 hf)]
      unfold nput
      rw [if_pos rfl]
  all_goals cases h
theorem QS.sn {old now : List UInt8} {s s' : DD} (hc : CW s) {nm to : ByteArray} {p : Int} {ds : List UInt8} (h : QS old now 4 s) (e : Eff 6 nm to p ds s s') : QS old now 5 s' := by
  rcases h with ⟨h, _⟩ | ⟨h, _⟩ | ⟨h, _⟩ | ⟨h, _⟩ | ⟨_, h1, h2⟩ | ⟨h, _⟩
  · cases h
  · cases h
  · cases h
  · cases h
  · exact .inr (.inr (.inr (.inr (.inr ⟨rfl, Settled.sn hc e, Has.sn e h2⟩))))
  · cases h
/-- what a crash leaves under the name -/
theorem QS.found {old now : List UInt8} {m : Nat} {s : DD} (h : QS old now m s) (hm : m ≠ 0) {cs : List Int} {gs : LG} {ws : List WL} (L : LF s cs gs ws) (n : ND s) : ∃ x, (hdN.data.toList, x) ∈ srF (lfs cs 1 gs ws) ∧ (m ≤ 3 → x = old) ∧ (m = 5 → x = now) ∧ (x = old ∨ x = now) := by
  have ha : Ald s old → ∃ x, (hdN.data.toList, x) ∈ srF (lfs cs 1 gs ws) ∧ x = old := fun ⟨f0, g1, g2, g3, g4⟩ => ⟨old, lfs_has L n (mem_fls_nf g1) (g4 _) g2 g3, rfl⟩
  rcases h with ⟨h, _⟩ | ⟨h0, h1, _⟩ | ⟨h0, h1, _⟩ | ⟨h0, h1, _⟩ | ⟨h0, h1, _⟩ | ⟨h0, ⟨h1, h2, h3⟩, f, hf, q1, q2⟩
  · exact absurd h hm
  · obtain ⟨x, hx, e⟩ := ha h1
    exact ⟨x, hx, fun _ => e, fun h => by omega, .inl e⟩
  · obtain ⟨x, hx, e⟩ := ha h1
    exact ⟨x, hx, fun _ => e, fun h => by omega, .inl e⟩
  · obtain ⟨x, hx, e⟩ := ha h1
    exact ⟨x, hx, fun _ => e, fun h => by omega, .inl e⟩
  · obtain ⟨f, g1, g2, g3, g4⟩ := h1 (cz cs 0 s.chs.length)
    exact ⟨f.lb, lfs_has L n g1 g2 g3 rfl, fun h => by omega, fun h => by omega, g4⟩
  · obtain ⟨q3, q4⟩ := q2 rfl
    refine ⟨now, lfs_has L n (mem_fls_nf hf) ?_ q3 q4, fun h => by omega, fun _ => rfl, .inr rfl⟩
    rw [h1, List.take_nil, h3]
    exact nmOf_mem n.1 hf
/-- what the k-th of the acts answers when the machine is to die at the n-th -/
def sw (n k : Nat) : Int := if n ≠ 0 ∧ n ≤ k then 125 else 0
structure SW (old now : List UInt8) (n j : Nat) (s : DD) : Prop where
  dead : s.dead = decide (n ≠ 0 ∧ n ≤ j)
  live : s.dead = false → s.unt = n - j ∧ s.flt = 125
  q : QS old now (if n = 0 then j else min j n) s
  unt : s.unt ≤ 6
  room : s.room = 1099511627776
theorem SW.step {old now : List UInt8} {n j : Nat} {s s' : DD} {kd : Int} {nm to : ByteArray} {p : Int} {ds : List UInt8} (h : SW old now n j s) (hp : Stp kd nm to p ds s s') (h0 : s.dead = false → ownE kd nm to p ds.length s = 0) (hQ : QS old now j s → ∀ t, Eff kd nm to p ds (acS s) t → QS old now (j + 1) t) : erE kd nm to p ds.length s = sw n (j + 1) ∧ SW old now n (j + 1) s' := by
  cases hd : s.dead with
  | true =>
    have h1 := h.dead
    rw [hd] at h1
    have h2 := of_decide_eq_true h1.symm
    rw [hp.isdead hd]
    refine ⟨?_, ⟨?_, ?_, ?_, h.unt, h.room⟩⟩
    · rw [erE_dead hd]
      exact (if_pos ⟨h2.1, by omega⟩).symm
    · rw [hd]
      exact (decide_eq_true ⟨h2.1, by omega⟩).symm
    · intro h3; rw [hd] at h3; cases h3
    · have h3 := h.q
      rw [if_neg h2.1] at h3 ⊢
      rw [show min (j + 1) n = min j n by omega]
      exact h3
  | false =>
    have h1 := h.dead
    rw [hd] at h1
    have h2 := of_decide_eq_false h1.symm
    obtain ⟨h3, h4⟩ := h.live hd
    obtain ⟨c1, c2, c3, c4⟩ := hp.cnt hd
    have hq : QS old now j s := by
      have h5 := h.q
      by_cases hn : n = 0
      · rw [if_pos hn] at h5; exact h5
      · rw [if_neg hn, show min j n = j by omega] at h5; exact h5
    by_cases hn : n = j + 1
    · have hf : fau s = 125 := by
        unfold fau
        rw [if_pos (by omega), h4]
      obtain ⟨s2, e2, rfl⟩ := hp.dies hd (h0 hd) hf
      refine ⟨?_, ⟨?_, ?_, ?_, ?_, ?_⟩⟩
      · rw [erE_live hd, if_pos (h0 hd), hf]
        exact (if_pos ⟨by omega, by omega⟩).symm
      · exact (decide_eq_true ⟨by omega, by omega⟩).symm
      · intro h6; cases h6
      · rw [if_neg (by omega), show min (j + 1) n = j + 1 by omega]
        exact (hQ hq s2 e2).set _ _ _ _
      · rw [c3]; have := h.unt; omega
      · rw [c1]; exact h.room
    · have hf : fau s = 0 := by
        unfold fau
        rw [if_neg (by omega)]
      have e2 := hp.done hd (h0 hd) hf
      refine ⟨?_, ⟨?_, ?_, ?_, ?_, ?_⟩⟩
      · rw [erE_live hd, if_pos (h0 hd), hf]
        exact (if_neg (fun h6 => h2 ⟨h6.1, by omega⟩)).symm
      · rw [hp.lives hd (by rw [hf]; decide)]
        exact (decide_eq_false (fun h6 => h2 ⟨h6.1, by omega⟩)).symm
      · intro _
        rw [c3, c4]
        exact ⟨by omega, h4⟩
      · by_cases hz : n = 0
        · rw [if_pos hz]; exact hQ hq s' e2
        · rw [if_neg hz, show min (j + 1) n = j + 1 by omega]; exact hQ hq s' e2
      · rw [c3]; have := h.unt; omega
      · rw [c1]; exact h.room
theorem SW.hasn {old now : List UInt8} {n j : Nat} {s : DD} (h : SW old now n j s) (hd : s.dead = false) (hj : 1 ≤ j ∧ j ≤ 3) : ∃ xs b, Has s hnN.data.toList xs b := by
  have h2 := of_decide_eq_false (h.dead.symm.trans hd)
  have hq : QS old now j s := by
    have h5 := h.q
    by_cases hn : n = 0
    · rw [if_pos hn] at h5; exact h5
    · rw [if_neg hn, show min j n = j by omega] at h5; exact h5
  rcases hq with ⟨h, _⟩ | ⟨_, _, h⟩ | ⟨_, _, h⟩ | ⟨_, _, h⟩ | ⟨h, _⟩ | ⟨h, _⟩
  · omega
  · exact ⟨_, _, h⟩
  · exact ⟨_, _, h⟩
  · exact ⟨_, _, h⟩
  · omega
  · omega
/-- a done act, on a disk on which nothing is named to fail -/
theorem BG.did {W w w' : World} {D T K : Nat} {s s' : DD} {kd : Int} {nm to : ByteArray} {p : Int} {ds : List UInt8} (h : BG W w D T K s) (hu : s.unt = 0) (a : AftX w w' W.heap.size D T s s') (e : Stp kd nm to p ds s s') (h0 : ownE kd nm to p ds.length s = 0) (hm : ds.length ≤ 1048576) :
    BG W w' D (T + 3) (K + 1) s' ∧ s'.unt = 0 ∧ Eff kd nm to p ds (acS s) s' :=
  ⟨h.stp a e hm, by rw [(e.cnt h.live).2.2.1, hu], e.done h.live h0 (fau_zero hu)⟩
theorem SCR.up {w w' : World} {a : Option Addr} {os : List OP} {c : Nat} (h : SCR w a os c) (u : Up w w') : SCR w' a os c :=
  ⟨⟨h.sl.cap, fun i hi => by
    obtain ⟨b, off, e, hr⟩ := h.sl.cells i hi
    exact ⟨b, off, e, range_up hr u⟩, h.sl.one⟩, fun o ho => by
    obtain ⟨ds, h1, h2⟩ := h.dat o ho
    exact ⟨ds, h1.up u, h2⟩⟩
end Go.Proofs.YtaibjeehjhlicaaGreatDoor
