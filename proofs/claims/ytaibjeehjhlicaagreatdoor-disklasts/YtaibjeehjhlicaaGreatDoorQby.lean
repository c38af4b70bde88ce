import Derived.Test.YtaibjeehjhlicaaGreatDoorQbw
import Derived.Test.YtaibjeehjhlicaaGreatDoorQbx
namespace Go.Proofs.YtaibjeehjhlicaaGreatDoor
open Go.RowKit Go.Shelf TextNum ModNum
theorem sb_at {w : World} {b : Nat} {ds : List UInt8} (h : At w b 5 (cb ds)) (hl : ds.length ≤ maxLen) : Sb w (.slice (some ⟨b, 0, none⟩) ds.length ds.length) ds := by
  refine ⟨_, _, rfl, Nat.le_refl _, hl, fun e => (by cases e), fun ad e => ?_⟩
  obtain rfl := Option.some.inj e
  refine ⟨fun _ => rfl, fun j u hj => ?_⟩
  rw [Addr.add_lit]
  exact h.cell (i := 0 + j) (by rw [Nat.zero_add]; exact hj)
theorem er_ok {kd : Int} {nm to : ByteArray} {p : Int} {m : Nat} {s : DD} (hd : s.dead = false) (h0 : ownE kd nm to p m s = 0) (hf : fau s = 0) : erE kd nm to p m s = 0 := by
  rw [erE_live hd, if_pos h0, hf]
/-- an act that is done -/
theorem BJ.did {W w w' : World} {D T K : Nat} {s s' : DD} {kd : Int} {nm to : ByteArray} {p : Int} {ds : List UInt8} (h : BJ W w D T K s) (hd : s.dead = false) (a : AftX w w' W.heap.size D T s s') (e : Stp kd nm to p ds s s') (h0 : ownE kd nm to p ds.length s = 0) (hf : fau s = 0) (hm : ds.length ≤ 1048576) :
    BJ W w' D (T + 3) (K + 1) s' ∧ Eff kd nm to p ds (acS s) s' ∧ s'.dead = false ∧ s'.unt = s.unt - 1 ∧ s'.flt = s.flt ∧ s'.room = s.room := by
  obtain ⟨c1, c2, c3, c4⟩ := e.cnt hd
  exact ⟨h.stp a e hm, e.done hd h0 hf, e.lives hd (by rw [hf]; decide), c3, c4, c1⟩
theorem fau_zero {s : DD} (h : s.unt = 0) : fau s = 0 := by
  unfold fau
  rw [h, if_neg (by decide)]
theorem fsOf_one {l : List UInt8} {f : FL} : fsOf [(l, f)] = [(l, f.nb)] := by
  unfold fsOf srt nbOf
  simp
abbrev abN : ByteArray := ⟨#[97, 47, 98]⟩
theorem abN_nm : isNm abN.data.toList = true := by decide +kernel
/-- the names of one file -/
theorem cr_one {s s' : DD} {nm to : ByteArray} {p : Int} {ds : List UInt8} (h : s.nf = []) (e : Eff 3 nm to p ds s s') : ∃ F, s'.nf = [(nm.data.toList, fnew F)] := by
  obtain ⟨F, bp, b2, vC, vLo, rfl⟩ := eff_cr e
  refine ⟨F, ?_⟩
  show drp s.nf nm.data.toList ++ [(nm.data.toList, fnew F)] = _
  rw [h]
  rfl
theorem rpl_one {l : List UInt8} {f f' : FL} : rpl [(l, f)] f.b f' = [(l, f')] := by
  unfold rpl
  simp
theorem wr_sole {s s' : DD} {nm to : ByteArray} {p : Int} {ds : List UInt8} {g : FL} (h : s.nf = [(nm.data.toList, g)]) (hd : ds ≠ []) (e : Eff 4 nm to p ds s s') : ∃ f', s'.nf = [(nm.data.toList, f')] ∧ f'.nb = wr g.nb p.toNat ds := by
  obtain ⟨f, hf, _, y1⟩ := eff_wr e
  obtain ⟨vn, vo, vk, ba, bk, rfl⟩ := y1 hd
  rw [h] at hf
  obtain ⟨rfl⟩ : f = g := by
    have := List.mem_singleton.1 hf
    injection this
  refine ⟨wtF _ p.toNat ds vn vo vk ba bk s.trn, ?_, rfl⟩
  show rpl s.nf _ _ = _
  rw [h]
  exact rpl_one
theorem sy_one {s s' : DD} {nm to : ByteArray} {p : Int} {ds : List UInt8} {g : FL} (h : s.nf = [(nm.data.toList, g)]) (hly : ∀ f ∈ fls s, lay f.lb f.lo = f.nb) (e : Eff 5 nm to p ds s s') : ∃ f', s'.nf = [(nm.data.toList, f')] ∧ f'.nb = g.nb ∧ f'.lo = [] ∧ f'.lb = g.nb := by
  obtain ⟨f, v, hf, rfl⟩ := eff_sy e
  have hl := hly f (mem_fls_nf hf)
  rw [h] at hf
  obtain ⟨rfl⟩ : f = g := by
    have := List.mem_singleton.1 hf
    injection this
  refine ⟨syF _ v, ?_, rfl, rfl, hl⟩
  show rpl s.nf _ _ = _
  rw [h]
  exact rpl_one
theorem sn_nf {s s' : DD} {nm to : ByteArray} {p : Int} {ds : List UInt8} (e : Eff 6 nm to p ds s s') : s'.nf = s.nf := by
  obtain ⟨nL, dl, rfl⟩ := eff_sn e
  rfl
theorem si_nil (w : World) : SI w (.slice none 0 0) [] := ⟨none, 0, rfl, Nat.le_refl _, by simp [maxLen], fun _ => ⟨rfl, rfl⟩, fun ad e => by cases e⟩
theorem one_of {fs : List GF} {l ds : List UInt8} (h : fs.map pr = [(l, ds)]) : ∃ g, fs = [g] ∧ g.nm = ⟨l.toArray⟩ ∧ g.ds = ds := by
  match fs, h with
  | [g], h =>
    have h1 : pr g = (l, ds) := by
      have := h
      simpa using this
    injection h1 with h2 h3
    refine ⟨g, rfl, ?_, h3⟩
    rw [← h2]
theorem FsO.at {w : World} {N : Nat} {g : GF} {a : Option Addr} {c : Nat} (h : FsO w N a [g] c) : ∃ b, a = some ⟨b, 0, none⟩ ∧ w.cell? ⟨b, 0, none⟩ = some (.string g.nm) ∧ w.cell? ⟨b, 1, none⟩ = some g.v ∧ Sb w g.v g.ds ∧ 1 ≤ c := by
  have hr := h.row
  rcases hr.2 with ⟨_, h0⟩ | ⟨b, cap, cur, e, _, _, hnc, _⟩
  · cases h0
  · have e' := e
    injection e with e1 e2 e3
    have hc := fun j u hj => World.ownsRow.cells hr (g := b) (by rw [e1]; rfl) j u hj
    refine ⟨b, e1, ?_, ?_, Ow.sb (h.dat g (List.mem_singleton.2 rfl)), by rw [e3]; exact hnc⟩
    · have h5 := hc 0 (.string g.nm) rfl
      rw [Addr.add_lit] at h5
      exact h5
    · have h5 := hc 1 g.v rfl
      rw [Addr.add_lit] at h5
      exact h5
set_option maxRecDepth 100000 in
set_option maxHeartbeats 8000000 in
theorem head_walk (w : World) (hG : ML w) (hV : 0 < w.heap.size) :
    Calls Tryz.prog 10 #[] w fun e w' => e = .returned (.bool true) ∧ Up w w' := by
  have HNew := Hid.of (New_gen 10 w.heap.size (by omega) w hG (Nat.le_refl _) hV)
  clear hG hV
  go_enter Tryz.func10, Tryz.ntmps10
  go_wp2_with fail
  refine HNew.out.mono ?_
  rintro e w2 ⟨D, M, L, rfl, k2, l2, u2⟩
  obtain ⟨s0, hs0⟩ : ∃ s0, nwS 10 M L = s0 := ⟨_, rfl⟩
  have HJ0 := Hid.of (show BJ w w2 D 0 0 s0 ∧ s0.dead = false ∧ s0.unt = 0 ∧ s0.room = 10 ∧ s0.nf = [] from hs0 ▸ ⟨⟨k2, u2, l2, nwS_iv _ _ _⟩, rfl, rfl, rfl, rfl⟩)
  clear k2 l2 u2 HNew hs0
  have hpn : ∀ w', (binOp .eql 24 (.pointer (some ⟨D, 0, none⟩)) (.pointer none)).run Tryz.prog w' = .ok (.bool false) w' := fun w' => by kernel_rfl
  dsimp only
  have H0 := Hid.of (show ownE 3 abN abN 0 ([] : List UInt8).length s0 = 0 by rw [own3]; unfold nmE; rw [if_pos abN_nm])
  have HC := Create_all abN abN 0 [] w2 HJ0.out.1.ok (by rw [HJ0.out.2.2.1]; decide) (by omega)
  rw [er_ok HJ0.out.2.1 H0.out (fau_zero HJ0.out.2.2.1)] at HC
  have HCC := Hid.of HC
  clear HC
  go_wp2_with fail
  refine HCC.out.mono ?_
  rintro e w3 ⟨rfl, s1, a1, p1⟩
  obtain ⟨j1, e1, d1, t1, _, r1⟩ := HJ0.out.1.did HJ0.out.2.1 a1 p1 H0.out (fau_zero HJ0.out.2.2.1) (by decide)
  obtain ⟨F, n1⟩ := cr_one (s := acS s0) HJ0.out.2.2.2.2 e1
  have HJ1 := Hid.of (show BJ w w3 D 3 1 s1 ∧ s1.dead = false ∧ s1.unt = 0 ∧ s1.room = 10 ∧ s1.nf = [(abN.data.toList, fnew F)] from ⟨j1, d1, by rw [t1, HJ0.out.2.2.1], by rw [r1]; exact HJ0.out.2.2.2.1, n1⟩)
  clear a1 p1 j1 e1 d1 t1 r1 n1 HCC H0
  dsimp only
  have HB := Hid.of (at_new w3 5 [.int .u8 7])
  have HU := Hid.of ((Up.refl w3).alloc (.cells [.int .u8 7].toArray 5))
  have hfn := fnE_mem (s := s1) HJ1.out.1.ok.nms (l := abN.data.toList) (f := fnew F) (by rw [HJ1.out.2.2.2.2]; exact List.mem_singleton.2 rfl)
  have H1 := Hid.of (show ownE 4 abN abN 2 ([7] : List UInt8).length s1 = 0 by
    rw [own4, if_pos hfn, HJ1.out.2.2.2.2, HJ1.out.2.2.2.1, show usd [(abN.data.toList, fnew F)] = 0 from rfl, show nbOf [(abN.data.toList, fnew F)] abN.data.toList = [] by unfold nbOf; simp]
    decide)
  clear hfn
  have HC := Write_all abN abN 2 (.slice (some ⟨w3.heap.size, 0, none⟩) 1 1) [7] _ (HJ1.out.1.ok.up HU.out) (by rw [HJ1.out.2.2.1]; decide) (by omega) (sb_at (ds := [7]) HB.out (by decide)) (by
    intro e
    have h1 := Option.some.inj e
    have h2 := lt_of_at HJ1.out.1.ok.disk
    have h3 : w3.heap.size = D := h1
    omega) (by decide)
  rw [er_ok HJ1.out.2.1 H1.out (fau_zero HJ1.out.2.2.1)] at HC
  have HCC := Hid.of HC
  clear HC
  go_wp2_with fail
  refine HCC.out.mono ?_
  rintro e w4 ⟨rfl, s2, a2, p2⟩
  obtain ⟨j2, e2, d2, t2, _, r2⟩ := HJ1.out.1.did HJ1.out.2.1 (a2.up HU.out) p2 H1.out (fau_zero HJ1.out.2.2.1) (by decide)
  obtain ⟨f2, n2, b2⟩ := wr_sole (s := acS s1) HJ1.out.2.2.2.2 (by decide) e2
  have HJ2 := Hid.of (show BJ w w4 D 6 2 s2 ∧ s2.dead = false ∧ s2.unt = 0 ∧ s2.nf = [(abN.data.toList, f2)] ∧ f2.nb = [0, 0, 7] from ⟨j2, d2, by rw [t2, HJ1.out.2.2.1], n2, b2.trans (show wr [] 2 [7] = [0, 0, 7] by decide +kernel)⟩)
  clear a2 p2 j2 e2 d2 t2 r2 n2 b2 HCC H1 HB HU
  dsimp only
  have hfn := fnE_mem (s := s2) HJ2.out.1.ok.nms (l := abN.data.toList) (f := f2) (by rw [HJ2.out.2.2.2.1]; exact List.mem_singleton.2 rfl)
  have H2 := Hid.of (show ownE 5 abN abN 0 ([] : List UInt8).length s2 = 0 by rw [own5]; exact hfn)
  clear hfn
  have HC := Sync_all abN abN 0 [] w4 HJ2.out.1.ok (by rw [HJ2.out.2.2.1]; decide) (by omega) HJ2.out.1.iv.ly
  rw [er_ok HJ2.out.2.1 H2.out (fau_zero HJ2.out.2.2.1)] at HC
  have HCC := Hid.of HC
  clear HC
  go_wp2_with fail
  refine HCC.out.mono ?_
  rintro e w5 ⟨rfl, s3, a3, p3⟩
  obtain ⟨j3, e3, d3, t3, _, r3⟩ := HJ2.out.1.did HJ2.out.2.1 a3 p3 H2.out (fau_zero HJ2.out.2.2.1) (by decide)
  obtain ⟨f3, n3, b3, c3, g3⟩ := sy_one (s := acS s2) HJ2.out.2.2.2.1 HJ2.out.1.iv.ly e3
  have HJ3 := Hid.of (show BJ w w5 D 9 3 s3 ∧ s3.dead = false ∧ s3.unt = 0 ∧ s3.nf = [(abN.data.toList, f3)] ∧ f3.nb = [0, 0, 7] ∧ f3.lo = [] ∧ f3.lb = f3.nb from ⟨j3, d3, by rw [t3, HJ2.out.2.2.1], n3, b3.trans HJ2.out.2.2.2.2, c3, g3.trans b3.symm⟩)
  clear a3 p3 j3 e3 d3 t3 r3 n3 b3 c3 g3 HCC H2
  dsimp only
  have H3 := Hid.of (own6 abN abN 0 ([] : List UInt8).length s3)
  have HC := SyncNames_all abN abN 0 [] w5 HJ3.out.1.ok (by rw [HJ3.out.2.2.1]; decide) (by omega) HJ3.out.1.iv.cw (by have := HJ3.out.1.iv.n0; omega)
  rw [er_ok HJ3.out.2.1 H3.out (fau_zero HJ3.out.2.2.1)] at HC
  have HCC := Hid.of HC
  clear HC
  go_wp2_with fail
  refine HCC.out.mono ?_
  rintro e w6 ⟨rfl, s4, a4, p4⟩
  obtain ⟨j4, e4, d4, t4, _, r4⟩ := HJ3.out.1.did HJ3.out.2.1 a4 p4 H3.out (fau_zero HJ3.out.2.2.1) (by decide)
  have HJ4 := Hid.of (show BJ w w6 D 12 4 s4 ∧ s4.nf = [(abN.data.toList, f3)] ∧ Settled s4 from ⟨j4, (sn_nf e4).trans HJ3.out.2.2.2.1, Settled.sn (s := acS s3) (HJ3.out.1.iv.set (s3.acts + 1) (s3.unt - 1) s3.flt s3.dead).cw e4⟩)
  clear a4 p4 j4 e4 d4 t4 r4 HCC H3 hpn
  dsimp only
  have HAf := Hid.of (after_gen _ D 12 2097152 s4 (.slice none 0 0) [] w6 HJ4.out.1.ok (si_nil _) (HJ4.out.1.iv.cf (by omega)) (by have := HJ4.out.1.iv.n0; omega) (by simp) (by omega))
  go_wp2_with fail
  refine HAf.out.mono ?_
  rintro e w7 ⟨a7, fs, c7, gs, ws, rfl, o7, f7, k7, l7, q7⟩
  have hst : fs.map pr = [(abN.data.toList, [0, 0, 7])] := by
    rw [q7, l7.still HJ4.out.1.ok.nD HJ4.out.2.2.1 HJ4.out.2.2.2.2 (fun p hp => by
      rw [HJ4.out.2.1] at hp
      obtain rfl := List.mem_singleton.1 hp
      exact HJ3.out.2.2.2.2.2), HJ4.out.2.1, fsOf_one, HJ3.out.2.2.2.2.1]
  obtain ⟨g, rfl, hgn, hgd⟩ := one_of hst
  obtain ⟨b, rfl, cc0, cc1, sb1, hc7⟩ := o7.at
  rw [hgn] at cc0
  rw [hgd] at sb1
  have HU7 := Hid.of (show Up w w7 from up_disk (s := s4) HJ4.out.1.up HJ4.out.1.lo (f7.weak (fun _ hb => hb ▸ .inl rfl)))
  obtain ⟨av, cv, hv, _⟩ := id sb1
  rw [hv] at cc1 sb1
  have hcv : (convert 41 9 (.slice av 3 cv)).run Tryz.prog w7 = .ok (.string ⟨#[0, 0, 7]⟩) w7 := conv_sb2 sb1
  have hc7z : (1 : Int) ≤ (c7 : Int) := by omega
  clear hst q7 l7 k7 f7 o7 HAf sb1 hv hgn hgd
  dsimp only

  go_wp2
  go_ret
  exact ⟨rfl, HU7.out⟩
end Go.Proofs.YtaibjeehjhlicaaGreatDoor
