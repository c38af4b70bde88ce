import Derived.Test.YtbdbpmeaiiodgaaDoorTv7
namespace Go.Proofs.YtbdbpmeaiiodgaaDoor
open Go.RowKit TextNum
set_option linter.unusedSimpArgs false in
set_option maxRecDepth 100000 in
set_option maxHeartbeats 3000000 in
theorem backs_walk (v : Value) (l : List UInt8) (w : World) (hT : TabD w ∧ TabL w) (hS : Sl w v l) (hl : l.length ≤ 1048576) :
    Calls Tryd.prog 3 #[v] w fun e w' => e = .returned (.bool true) ∧ Up w w' := by
  obtain ⟨a0, c0, ea, hc0, hx⟩ := id hS
  clear hx
  subst ea
  obtain ⟨kb, hkb⟩ : ∃ kb : ByteArray, kb = ⟨l.toArray⟩ := ⟨_, rfl⟩
  have hcv := conv_sl hS
  rw [show vs l = .string kb by rw [hkb]] at hcv
  have HS := Hid.of hS
  have HT := Hid.of hT
  have HK := Hid.of hkb
  clear hS hT hkb
  go_enter Tryd.func3, Tryd.ntmps3
  go_wp2_with fail
  refine (lent_walk _ l _ HS.out hl).mono ?_
  rintro e w1 ⟨vw, rfl, o1, u1⟩
  obtain ⟨a1, c1, ev⟩ := o1.len
  rw [List.length_append, List.length_replicate] at ev
  subst ev
  have hc1 : l.length + 400 ≤ c1 := by
    obtain ⟨a, c, e, h, _⟩ := o1.sl
    rw [List.length_append, List.length_replicate] at e h
    injection e with _ _ e3
    omega
  have H1 := Hid.of (And.intro o1 u1)
  have HB := Hid.of (show Sl w1 (.slice a1 l.length c1) l from by
    have := sl_take (k := l.length) (a := a1) (n := l.length + 400) (c := c1) o1.sl (by simp)
    rwa [List.take_left' rfl] at this)
  clear o1 u1 hcv
  have hc1' : l.length ≤ c1 := by omega
  have hn0 : l.length ≤ l.length + 400 := by omega
  dsimp only
  go_wp2_with fail
  refine (EncodeBase64_walk _ l _ (HT.out.2.up H1.out.2) HB.out (by omega)).mono ?_
  rintro e w2 ⟨rfl, u2⟩
  obtain ⟨S, hS⟩ : ∃ S : ByteArray, S = ⟨(b64E l).toArray⟩ := ⟨_, rfl⟩
  rw [show vs (b64E l) = .string S by rw [hS]]
  have H2 := Hid.of u2
  have hSs : S.size = (l.length + 2) / 3 * 4 := by rw [hS, Go.Lib.size_eq]; simp [b64E_length]
  have HSE := Hid.of hS
  clear u2 hS
  dsimp only
  go_wp2_with fail
  refine (EncodeHex_walk _ l _ (HT.out.1.up (H1.out.2.trans H2.out)) (HB.out.up H2.out) (by omega)).mono ?_
  rintro e w3 ⟨rfl, u3⟩
  obtain ⟨X, hX⟩ : ∃ S : ByteArray, S = ⟨(hexE l).toArray⟩ := ⟨_, rfl⟩
  rw [show vs (hexE l) = .string X by rw [hX]]
  have H3 := Hid.of (H2.out.trans u3)
  have hXs : X.size = 2 * l.length := by rw [hX, Go.Lib.size_eq]; simp [hexE_length]
  have HXE := Hid.of hX
  clear u3 hX H2
  dsimp only
  go_wp2_with fail
  refine (Quote_walk _ l _ (HT.out.1.up (H1.out.2.trans H3.out)) (HB.out.up H3.out) (by omega)).mono ?_
  rintro e w4 ⟨rfl, u4⟩
  obtain ⟨U, hU⟩ : ∃ S : ByteArray, S = ⟨(quo l).toArray⟩ := ⟨_, rfl⟩
  rw [show vs (quo l) = .string U by rw [hU]]
  have H4 := Hid.of (H3.out.trans u4)
  have hUs : l.length + 2 ≤ U.size ∧ U.size ≤ 4 * l.length + 2 := by
    have e : U.size = (qs l).length + 2 := by rw [hU, Go.Lib.size_eq]; simp [quo]
    have := qs_length l
    omega
  have HUE := Hid.of hU
  clear u4 hU H3
  dsimp only
  go_wp2_with fail
  refine (untouchedM _ l kb HK.out _ (H1.out.1.sl.up H4.out) hl).mono ?_
  rintro e w5 ⟨rfl, rfl⟩
  have hcb := conv_sl (HB.out.up H4.out)
  rw [show vs l = .string kb by rw [HK.out]] at hcb
  have hn2 : (l.length : Int) ≤ 1048576 := by omega
  have f1 : IntKind.i64.wrap ((l.length : Int) + 2) = (l.length : Int) + 2 := by
    simp only [IntKind.wrap, IntKind.signed, IntKind.bits]; simp; omega
  have f2 : IntKind.i64.wrap (Int.tdiv ((l.length : Int) + 2) 3) = (((l.length + 2) / 3 : Nat) : Int) := by
    rw [show Int.tdiv ((l.length : Int) + 2) 3 = (((l.length + 2) / 3 : Nat) : Int) from rfl]
    simp only [IntKind.wrap, IntKind.signed, IntKind.bits]; simp; omega
  have f3 : IntKind.i64.wrap ((((l.length + 2) / 3 : Nat) : Int) * 4) = (S.size : Int) := by
    simp only [IntKind.wrap, IntKind.signed, IntKind.bits]; simp; omega
  have f4 : IntKind.i64.wrap (2 * (l.length : Int)) = (X.size : Int) := by
    simp only [IntKind.wrap, IntKind.signed, IntKind.bits]; simp; omega
  have f5 : ¬ (U.size : Int) < (l.length : Int) + 2 := by omega
  have f6 : IntKind.i64.wrap (4 * (l.length : Int)) = 4 * (l.length : Int) := by
    simp only [IntKind.wrap, IntKind.signed, IntKind.bits]; simp; omega
  have f7 : IntKind.i64.wrap (4 * (l.length : Int) + 2) = 4 * (l.length : Int) + 2 := by
    simp only [IntKind.wrap, IntKind.signed, IntKind.bits]; simp; omega
  have f8 : ¬ 4 * (l.length : Int) + 2 < (U.size : Int) := by omega
  have g1 : ((S.size : Int) = ((l.length : Int) + 2) / 3 * 4) = True := eq_true (by omega)
  have g2 : ((X.size : Int) = 2 * (l.length : Int)) = True := eq_true (by omega)
  have g3 : ((S.size : Int) != ((l.length : Int) + 2) / 3 * 4) = false := by simp; omega
  have g4 : ((X.size : Int) != 2 * (l.length : Int)) = false := by simp; omega
  have HSZ := Hid.of (And.intro hSs (And.intro hXs hUs))
  clear hSs hXs hUs
  dsimp only
  go_wp2_with fail
  clear f1 f2 f3 f4 f5 f6 f7 f8 g1 g2 g3 g4 hcb
  have HUA := Hid.of (H1.out.2.trans H4.out)
  refine (rd64 l S HSE.out _ (HT.out.2.up HUA.out)).mono ?_
  rintro e dx ⟨x, erx, gx, rfl, ho, hb, hu⟩
  obtain ⟨ax, cx, ev⟩ := ho.len
  subst ev
  have HDx := Hid.of (And.intro ho (And.intro hb hu))
  clear ho hb hu
  generalize gx.length = nx at *
  dsimp only
  go_wp2_with fail
  refine (backM S.size _ gx l kb HK.out erx _ HDx.out.1.sl HDx.out.2.1).mono ?_
  rintro e _ ⟨rfl, rfl⟩
  dsimp only
  go_wp2_with fail
  refine (moved1 _ _ gx 1 _ HDx.out.1 HDx.out.2.2 (HDx.out.2.1.len hl)).mono ?_
  rintro e mx ⟨x2, rfl, hm, hu⟩
  obtain ⟨bbx, ex, ev, hq⟩ := id hm.2
  clear hq
  subst ev
  have HMx := Hid.of (And.intro hm hu)
  clear hm hu
  generalize (addn 1 gx ++ [1]).length = qx at *
  dsimp only
  go_wp2_with fail
  generalize hWx : mx.alloc (.cells #[.slice ax nx cx, .slice bbx qx ex] 31) = Wx at *
  have HWx := Hid.of (show Up w Wx ∧ Mv Wx (.slice ax nx cx) (.slice bbx qx ex) gx 1 ∧ Bk S.size erx gx l ∧ Wx.cell? ⟨mx.heap.size, 0, none⟩ = some (.slice ax nx cx) ∧ Wx.cell? ⟨mx.heap.size, 1, none⟩ = some (.slice bbx qx ex) from by
    subst hWx
    exact ⟨(HUA.out.trans HMx.out.2).alloc _, HMx.out.1.up ((Up.refl _).alloc _), HDx.out.2.1, by rw [World.cell?_alloc_at _ _ _ _ rfl]; rfl, by rw [World.cell?_alloc_at _ _ _ _ rfl]; rfl⟩)
  have HUx := Hid.of (HWx.out.1)
  have HVx := Hid.of (show Up w5 Wx from by subst hWx; exact HMx.out.2.alloc _)
  generalize mx.heap.size = zx at *
  clear HDx HMx hWx
  refine (rdHex l X HXE.out _ (HT.out.1.up HUx.out)).mono ?_
  rintro e dy ⟨x, ery, gy, rfl, ho, hb, hu⟩
  obtain ⟨ay, cy, ev⟩ := ho.len
  subst ev
  have HDy := Hid.of (And.intro ho (And.intro hb hu))
  clear ho hb hu
  generalize gy.length = ny at *
  dsimp only
  go_wp2_with fail
  refine (backM X.size _ gy l kb HK.out ery _ HDy.out.1.sl HDy.out.2.1).mono ?_
  rintro e _ ⟨rfl, rfl⟩
  dsimp only
  go_wp2_with fail
  refine (moved1 _ _ gy 2 _ HDy.out.1 HDy.out.2.2 (HDy.out.2.1.len hl)).mono ?_
  rintro e my ⟨x2, rfl, hm, hu⟩
  obtain ⟨bby, ey, ev, hq⟩ := id hm.2
  clear hq
  subst ev
  have HMy := Hid.of (And.intro hm hu)
  clear hm hu
  generalize (addn 2 gy ++ [2]).length = qy at *
  dsimp only
  go_wp2_with fail
  generalize hWy : my.alloc (.cells #[.slice ay ny cy, .slice bby qy ey] 31) = Wy at *
  have HWy := Hid.of (show Up w Wy ∧ Mv Wy (.slice ay ny cy) (.slice bby qy ey) gy 2 ∧ Bk X.size ery gy l ∧ Wy.cell? ⟨my.heap.size, 0, none⟩ = some (.slice ay ny cy) ∧ Wy.cell? ⟨my.heap.size, 1, none⟩ = some (.slice bby qy ey) from by
    subst hWy
    exact ⟨(HUx.out.trans HMy.out.2).alloc _, HMy.out.1.up ((Up.refl _).alloc _), HDy.out.2.1, by rw [World.cell?_alloc_at _ _ _ _ rfl]; rfl, by rw [World.cell?_alloc_at _ _ _ _ rfl]; rfl⟩)
  have HUy := Hid.of (HWy.out.1)
  have HVy := Hid.of (show Up Wx Wy from by subst hWy; exact HMy.out.2.alloc _)
  generalize my.heap.size = zy at *
  clear HDy HMy hWy
  refine (rdQuo l U HUE.out _ (HT.out.1.up HUy.out)).mono ?_
  rintro e dz ⟨x, erz, gz, rfl, ho, hb, hu⟩
  obtain ⟨az, cz, ev⟩ := ho.len
  subst ev
  have HDz := Hid.of (And.intro ho (And.intro hb hu))
  clear ho hb hu
  generalize gz.length = nz at *
  dsimp only
  go_wp2_with fail
  refine (backM U.size _ gz l kb HK.out erz _ HDz.out.1.sl HDz.out.2.1).mono ?_
  rintro e _ ⟨rfl, rfl⟩
  dsimp only
  go_wp2_with fail
  refine (moved1 _ _ gz 3 _ HDz.out.1 HDz.out.2.2 (HDz.out.2.1.len hl)).mono ?_
  rintro e mz ⟨x2, rfl, hm, hu⟩
  obtain ⟨bbz, ez, ev, hq⟩ := id hm.2
  clear hq
  subst ev
  have HMz := Hid.of (And.intro hm hu)
  clear hm hu
  generalize (addn 3 gz ++ [3]).length = qz at *
  dsimp only
  go_wp2_with fail
  generalize hWz : mz.alloc (.cells #[.slice az nz cz, .slice bbz qz ez] 31) = Wz at *
  have HWz := Hid.of (show Up w Wz ∧ Mv Wz (.slice az nz cz) (.slice bbz qz ez) gz 3 ∧ Bk U.size erz gz l ∧ Wz.cell? ⟨mz.heap.size, 0, none⟩ = some (.slice az nz cz) ∧ Wz.cell? ⟨mz.heap.size, 1, none⟩ = some (.slice bbz qz ez) from by
    subst hWz
    exact ⟨(HUy.out.trans HMz.out.2).alloc _, HMz.out.1.up ((Up.refl _).alloc _), HDz.out.2.1, by rw [World.cell?_alloc_at _ _ _ _ rfl]; rfl, by rw [World.cell?_alloc_at _ _ _ _ rfl]; rfl⟩)
  have HUz := Hid.of (HWz.out.1)
  have HVz := Hid.of (show Up Wy Wz from by subst hWz; exact HMz.out.2.alloc _)
  generalize mz.heap.size = zz at *
  clear HDz HMz hWz
  refine (rd64 l S HSE.out _ (HT.out.2.up HUz.out)).mono ?_
  rintro e dp ⟨x, erp, gp, rfl, ho, hb, hu⟩
  obtain ⟨ap, cp, ev⟩ := ho.len
  subst ev
  have HDp := Hid.of (And.intro ho (And.intro hb hu))
  have HUp := Hid.of (HUz.out.trans hu)
  clear ho hb hu
  generalize gp.length = np at *
  dsimp only
  go_wp2_with fail
  refine (rdHex l X HXE.out _ (HT.out.1.up HUp.out)).mono ?_
  rintro e dq ⟨x, erq, gq, rfl, ho, hb, hu⟩
  obtain ⟨aq, cq, ev⟩ := ho.len
  subst ev
  have HDq := Hid.of (And.intro ho (And.intro hb hu))
  have HUq := Hid.of (HUp.out.trans hu)
  clear ho hb hu
  generalize gq.length = nq at *
  dsimp only
  go_wp2_with fail
  refine (rdQuo l U HUE.out _ (HT.out.1.up HUq.out)).mono ?_
  rintro e dr ⟨x, err, gr, rfl, ho, hb, hu⟩
  obtain ⟨ar, cr, ev⟩ := ho.len
  subst ev
  have HDr := Hid.of (And.intro ho (And.intro hb hu))
  have HUr := Hid.of (HUq.out.trans hu)
  clear ho hb hu
  generalize gr.length = nr at *
  have hcb := conv_sl (HB.out.up (H4.out.trans (HVx.out.trans (HVy.out.trans (HVz.out.trans (HDp.out.2.2.trans (HDq.out.2.2.trans HDr.out.2.2)))))))
  rw [show vs l = .string kb by rw [HK.out]] at hcb
  dsimp only
  go_wp2_with fail
  refine (backM S.size _ gp l kb HK.out erp _ (HDp.out.1.sl.up (HDq.out.2.2.trans HDr.out.2.2)) HDp.out.2.1).mono ?_
  rintro e dr ⟨rfl, rfl⟩
  dsimp only
  go_wp2_with fail
  refine (backM X.size _ gq l kb HK.out erq _ (HDq.out.1.sl.up HDr.out.2.2) HDq.out.2.1).mono ?_
  rintro e dr ⟨rfl, rfl⟩
  dsimp only
  go_wp2_with fail
  refine (backM U.size _ gr l kb HK.out err _ HDr.out.1.sl HDr.out.2.1).mono ?_
  rintro e dr ⟨rfl, rfl⟩
  dsimp only
  go_wp2_with fail
  clear hcb
  have HSZ2 := Hid.of (show Wz.heap.size ≤ dp.heap.size ∧ dp.heap.size ≤ dq.heap.size ∧ dq.heap.size ≤ dr.heap.size from ⟨HDp.out.2.2.size, HDq.out.2.2.size, HDr.out.2.2.size⟩)
  refine (moved2 Wz.heap.size dp.heap.size dr.heap.size _ gp 4 _ (HDp.out.1.below (HDq.out.2.2.trans HDr.out.2.2)) (by have := HSZ2.out; omega) (HDp.out.2.1.len hl) (fun b hb => (own_lt HDp.out.1 b hb).2) (Nat.le_refl _)).mono ?_
  rintro e m4 ⟨x2, rfl, hm, hg⟩
  obtain ⟨b4, e4, ev, hq⟩ := id hm.1.2
  clear hq
  subst ev
  have HM4 := Hid.of (And.intro hm (And.intro (HDq.out.1.below HDr.out.2.2 |>.by hg (fun r hr => (own_lt HDp.out.1 r hr).2)) (And.intro (HDr.out.1.by hg (fun r hr => by have := (own_lt HDp.out.1 r hr).2; have := HSZ2.out; omega)) (And.intro (up_by (HDp.out.2.2.trans (HDq.out.2.2.trans HDr.out.2.2)) hg (fun r hr => (own_lt HDp.out.1 r hr).1)) hg.size))))
  clear hm hg
  generalize (addn 4 gp ++ [4]).length = q4 at *
  dsimp only
  go_wp2_with fail
  generalize hW4 : m4.alloc (.cells #[.slice ap np cp, .slice b4 q4 e4] 31) = W4 at *
  have HA4 := Hid.of (show Ap W4 (.slice ap np cp) (.slice b4 q4 e4) gp 4 dp.heap.size dr.heap.size m4.heap.size ∧ Own W4 dp.heap.size (.slice aq nq cq) gq ∧ Own W4 dq.heap.size (.slice ar nr cr) gr ∧ Up Wz W4 ∧ dr.heap.size ≤ W4.heap.size from by
    subst hW4
    have u := (Up.refl m4).alloc (.cells #[.slice ap np cp, .slice b4 q4 e4] 31)
    exact ⟨ap_new HM4.out.1 HM4.out.2.2.2.2 _, HM4.out.2.1.below u, HM4.out.2.2.1.below u, HM4.out.2.2.2.1.trans u, Nat.le_trans HM4.out.2.2.2.2 u.size⟩)
  generalize m4.heap.size = z4 at *
  clear HM4 hW4
  refine (moved2 dp.heap.size dq.heap.size dr.heap.size _ gq 5 _ HA4.out.2.1 (by have := HSZ2.out; have := HA4.out.2.2.2.2; omega) (HDq.out.2.1.len hl) (fun b hb => (own_lt HDq.out.1 b hb).2) HA4.out.2.2.2.2).mono ?_
  rintro e m5 ⟨x2, rfl, hm, hg⟩
  obtain ⟨b5, e5, ev, hq⟩ := id hm.1.2
  clear hq
  subst ev
  have HM5 := Hid.of (And.intro hm (And.intro (HA4.out.1.by hg (fun r hr => by have := own_lt HDq.out.1 r hr; have := HSZ2.out; omega)) (And.intro (HA4.out.2.2.1.by hg (fun r hr => (own_lt HDq.out.1 r hr).2)) (And.intro (up_by HA4.out.2.2.2.1 hg (fun r hr => by have := (own_lt HDq.out.1 r hr).1; have := HSZ2.out; omega)) (Nat.le_trans HA4.out.2.2.2.2 hg.size)))))
  clear hm hg HA4
  generalize (addn 5 gq ++ [5]).length = q5 at *
  dsimp only
  go_wp2_with fail
  generalize hW5 : m5.alloc (.cells #[.slice aq nq cq, .slice b5 q5 e5] 31) = W5 at *
  have HA5 := Hid.of (show Ap W5 (.slice ap np cp) (.slice b4 q4 e4) gp 4 dp.heap.size dr.heap.size z4 ∧ Ap W5 (.slice aq nq cq) (.slice b5 q5 e5) gq 5 dq.heap.size dr.heap.size m5.heap.size ∧ Own W5 dq.heap.size (.slice ar nr cr) gr ∧ Up Wz W5 ∧ dr.heap.size ≤ W5.heap.size from by
    subst hW5
    have u := (Up.refl m5).alloc (.cells #[.slice aq nq cq, .slice b5 q5 e5] 31)
    exact ⟨HM5.out.2.1.up u, ap_new HM5.out.1 HM5.out.2.2.2.2 _, HM5.out.2.2.1.below u, HM5.out.2.2.2.1.trans u, Nat.le_trans HM5.out.2.2.2.2 u.size⟩)
  generalize m5.heap.size = z5 at *
  clear HM5 hW5
  refine (moved2 dq.heap.size dr.heap.size dr.heap.size _ gr 6 _ HA5.out.2.2.1 (by have := HSZ2.out; have := HA5.out.2.2.2.2; omega) (HDr.out.2.1.len hl) (fun b hb => (own_lt HDr.out.1 b hb).2) HA5.out.2.2.2.2).mono ?_
  rintro e m6 ⟨x2, rfl, hm, hg⟩
  obtain ⟨b6, e6, ev, hq⟩ := id hm.1.2
  clear hq
  subst ev
  have HM6 := Hid.of (And.intro hm (And.intro (HA5.out.1.by hg (fun r hr => by have := own_lt HDr.out.1 r hr; have := HSZ2.out; omega)) (And.intro (HA5.out.2.1.by hg (fun r hr => own_lt HDr.out.1 r hr)) (And.intro (up_by HA5.out.2.2.2.1 hg (fun r hr => by have := (own_lt HDr.out.1 r hr).1; have := HSZ2.out; omega)) (Nat.le_trans HA5.out.2.2.2.2 hg.size)))))
  clear hm hg HA5
  generalize (addn 6 gr ++ [6]).length = q6 at *
  dsimp only
  have kx0 := HWx.out.2.2.2.1
  have kx1 := HWx.out.2.2.2.2
  have HX := Hid.of (show Up Wx (m6.alloc (.cells #[.slice ar nr cr, .slice b6 q6 e6] 31)) from (HVy.out.trans (HVz.out.trans HM6.out.2.2.2.1)).alloc _)
  have jx0 := HX.out.cell kx0
  have jx1 := HX.out.cell kx1
  clear kx0 kx1
  go_wp2_with fail
  clear jx0 jx1
  generalize hW6 : m6.alloc (.cells #[.slice ar nr cr, .slice b6 q6 e6] 31) = W6 at *
  have HA6 := Hid.of (show Ap W6 (.slice ap np cp) (.slice b4 q4 e4) gp 4 dp.heap.size dr.heap.size z4 ∧ Ap W6 (.slice aq nq cq) (.slice b5 q5 e5) gq 5 dq.heap.size dr.heap.size z5 ∧ Ap W6 (.slice ar nr cr) (.slice b6 q6 e6) gr 6 dr.heap.size dr.heap.size m6.heap.size ∧ Up Wz W6 from by
    subst hW6
    have u := (Up.refl m6).alloc (.cells #[.slice ar nr cr, .slice b6 q6 e6] 31)
    exact ⟨HM6.out.2.1.up u, HM6.out.2.2.1.up u, ap_new HM6.out.1 HM6.out.2.2.2.2 _, HM6.out.2.2.2.1.trans u⟩)
  generalize m6.heap.size = z6 at *
  clear HM6 hW6
  have HF := Hid.of (show (Mv W6 (.slice ax nx cx) (.slice bbx qx ex) gx 1 ∧ Bk S.size erx gx l) ∧ (Mv W6 (.slice ay ny cy) (.slice bby qy ey) gy 2 ∧ Bk X.size ery gy l ∧ W6.cell? ⟨zy, 0, none⟩ = some (.slice ay ny cy) ∧ W6.cell? ⟨zy, 1, none⟩ = some (.slice bby qy ey)) ∧ (Mv W6 (.slice az nz cz) (.slice bbz qz ez) gz 3 ∧ Bk U.size erz gz l ∧ W6.cell? ⟨zz, 0, none⟩ = some (.slice az nz cz) ∧ W6.cell? ⟨zz, 1, none⟩ = some (.slice bbz qz ez)) from by
    have uz := HA6.out.2.2.2
    have uy := HVz.out.trans uz
    have ux := HVy.out.trans uy
    exact ⟨⟨HWx.out.2.1.up ux, HWx.out.2.2.1⟩, ⟨HWy.out.2.1.up uy, HWy.out.2.2.1, uy.cell HWy.out.2.2.2.1, uy.cell HWy.out.2.2.2.2⟩, ⟨HWz.out.2.1.up uz, HWz.out.2.2.1, uz.cell HWz.out.2.2.2.1, uz.cell HWz.out.2.2.2.2⟩⟩)
  have HG := Hid.of (show Up w W6 ∧ Sl W6 (.slice a1 (l.length + 400) c1) (l ++ List.replicate 400 165) from ⟨HUz.out.trans HA6.out.2.2.2, H1.out.1.sl.up (H4.out.trans (HVx.out.trans (HVy.out.trans (HVz.out.trans HA6.out.2.2.2))))⟩)
  have HP := Hid.of (And.intro HDp.out.2.1 (And.intro HDq.out.2.1 HDr.out.2.1))
  clear HWx HWy HWz HVx HVy HVz HUx HUy HUz HDp HDq HDr HUp HUq HUr HSZ2 HX HUA HB H4 H1
  refine (staysM _ _ gx l _ _ 1 kb HK.out _ HF.out.1.1 HF.out.1.2 hl).mono ?_
  rintro e s1 ⟨rfl, u⟩
  have HS1 := Hid.of u
  have k0 := u.cell HF.out.2.1.2.2.1
  have k1 := u.cell HF.out.2.1.2.2.2
  clear u
  dsimp only
  go_wp2_with fail
  refine (staysM _ _ gy l _ _ 2 kb HK.out _ (HF.out.2.1.1.up HS1.out) HF.out.2.1.2.1 hl).mono ?_
  rintro e s2 ⟨rfl, u⟩
  have HS2 := Hid.of (HS1.out.trans u)
  clear u k0 k1 HS1
  have k0 := HS2.out.cell HF.out.2.2.2.2.1
  have k1 := HS2.out.cell HF.out.2.2.2.2.2
  dsimp only
  go_wp2_with fail
  refine (staysM _ _ gz l _ _ 3 kb HK.out _ (HF.out.2.2.1.up HS2.out) HF.out.2.2.2.1 hl).mono ?_
  rintro e s3 ⟨rfl, u⟩
  have HS3 := Hid.of (HS2.out.trans u)
  clear u k0 k1 HS2
  have k0 := HS3.out.cell HA6.out.1.2.1
  have k1 := HS3.out.cell HA6.out.1.2.2.1
  dsimp only
  go_wp2_with fail
  refine (staysM _ _ gp l _ _ 4 kb HK.out _ (HA6.out.1.1.1.up HS3.out) HP.out.1 hl).mono ?_
  rintro e s4 ⟨rfl, u⟩
  have HS4 := Hid.of (HS3.out.trans u)
  clear u k0 k1 HS3
  have k0 := HS4.out.cell HA6.out.2.1.2.1
  have k1 := HS4.out.cell HA6.out.2.1.2.2.1
  dsimp only
  go_wp2_with fail
  refine (staysM _ _ gq l _ _ 5 kb HK.out _ (HA6.out.2.1.1.1.up HS4.out) HP.out.2.1 hl).mono ?_
  rintro e s5 ⟨rfl, u⟩
  have HS5 := Hid.of (HS4.out.trans u)
  clear u k0 k1 HS4
  have k0 := HS5.out.cell HA6.out.2.2.1.2.1
  have k1 := HS5.out.cell HA6.out.2.2.1.2.2.1
  dsimp only
  go_wp2_with fail
  refine (staysM _ _ gr l _ _ 6 kb HK.out _ (HA6.out.2.2.1.1.1.up HS5.out) HP.out.2.2 hl).mono ?_
  rintro e s6 ⟨rfl, u⟩
  have HS6 := Hid.of (HS5.out.trans u)
  clear u k0 k1 HS5
  dsimp only
  go_wp2_with fail
  refine (untouchedM _ l kb HK.out _ (HG.out.2.up HS6.out) hl).mono ?_
  rintro e s7 ⟨rfl, rfl⟩
  dsimp only
  go_wp2
  go_ret
  exact ⟨rfl, HG.out.1.trans HS6.out⟩
end Go.Proofs.YtbdbpmeaiiodgaaDoor
