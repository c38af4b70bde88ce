import Derived.Test.YtaibjeehjhlicaaGreatDoorUaa
namespace Go.Proofs.YtaibjeehjhlicaaGreatDoor
open Go.RowKit Go.Shelf TextNum ModNum
set_option maxRecDepth 100000 in
set_option maxHeartbeats 1000000 in
theorem within_one (n : Int) (m : Nat) (hb : m ≤ 4611686018427387904) (w : World) : Calls Tryz.prog 24 #[.int .i64 n, .int .i64 1, .int .i64 ((m : Int) + 1)] w fun e w' => ∃ k : Nat, 1 ≤ k ∧ k ≤ m + 1 ∧ e = .returned (.int .i64 (k : Int)) ∧ w' = w := by
  have h1 := Int.tmod_lt_of_pos n (show (0 : Int) < (m : Int) + 1 by omega)
  have h2 : -((m : Int) + 1) < n.tmod ((m : Int) + 1) := by
    have h3 := Int.tmod_lt_of_pos (-n) (show (0 : Int) < (m : Int) + 1 by omega)
    rw [Int.neg_tmod] at h3
    omega
  have hm0 : (((m : Int) + 1) == 0) = false := by rw [beq_eq_false_iff_ne]; omega
  have he : (m : Int) + 1 - 1 + 1 = (m : Int) + 1 := by omega
  generalize hr : n.tmod ((m : Int) + 1) = r at *
  by_cases hz : r < 0
  · go_enter Tryz.func24, Tryz.ntmps24
    go_wp2
    go_ret
    exact ⟨(r + (m : Int) + 2).toNat, by omega, by omega, congrArg (fun z : Int => Ending.returned (Value.int .i64 z)) (by omega), rfl⟩
  · go_enter Tryz.func24, Tryz.ntmps24
    go_wp2
    go_ret
    exact ⟨(1 + r).toNat, by omega, by omega, congrArg (fun z : Int => Ending.returned (Value.int .i64 z)) (by omega), rfl⟩
set_option maxRecDepth 100000 in
set_option maxHeartbeats 2000000 in
/-- a new disk, on which nothing is played -/
theorem begun_nil (B : Nat) (w : World) (hG : ML w) (hB : B ≤ w.heap.size) (hl : 0 < B) :
    Calls Tryz.prog 9 #[.slice none 0 0] w fun e w' => ∃ D M L, e = .returned (pv D) ∧ DOk w' B D 0 (nwS 1099511627776 M L) ∧ (∀ k, own D (nwS 1099511627776 M L) k → w.heap.size ≤ k) ∧ Up w w' := by
  have HNew := Hid.of (New_gen 1099511627776 B (by omega) w hG hB hl)
  clear hG
  go_enter Tryz.func9, Tryz.ntmps9
  go_wp2_with fail
  refine HNew.out.mono ?_
  rintro e w2 ⟨D, M, L, rfl, k2, l2, u2⟩
  have HJ2 := Hid.of (And.intro k2 (And.intro l2 u2))
  clear k2 l2 u2 HNew
  dsimp only
  have hpn : ∀ w', (binOp .eql 24 (.pointer (some ⟨D, 0, none⟩)) (.pointer none)).run Tryz.prog w' = .ok (.bool false) w' := fun w' => by kernel_rfl
  go_wp2
  go_loopw [5] (fun v5 wr => v5 = .int .i64 0 ∧ Hid (wr = w2)) (fun _ _ => 0)
  case atStart => exact ⟨rfl, Hid.of rfl⟩
  case round =>
    obtain ⟨rfl, hU⟩ := hrel
    go_wp2
    go_ret
    refine ⟨D, M, L, rfl, ?_⟩
    rw [hU.out]
    exact HJ2.out
/-- two disks beside each other -/
structure B2 (W w : World) (Da Db Ta Tb Ka Kb : Nat) (sa sb : DD) : Prop where
  a : BJ W w Da Ta Ka sa
  b : BJ W w Db Tb Kb sb
  dis : ∀ k, own Da sa k → ¬ own Db sb k
theorem B2.swap {W w : World} {Da Db Ta Tb Ka Kb : Nat} {sa sb : DD} (h : B2 W w Da Db Ta Tb Ka Kb sa sb) : B2 W w Db Da Tb Ta Kb Ka sb sa := ⟨h.b, h.a, fun k hb ha => h.dis k ha hb⟩
theorem B2.upTo {W w w' : World} {Da Db Ta Tb Ka Kb : Nat} {sa sb : DD} (h : B2 W w Da Db Ta Tb Ka Kb sa sb) (u : Up w w') : B2 W w' Da Db Ta Tb Ka Kb sa sb := ⟨h.a.upTo u, h.b.upTo u, h.dis⟩
theorem B2.more {W w : World} {Da Db Ta Tb Ka Kb Ta' Tb' Ka' Kb' : Nat} {sa sb : DD} (h : B2 W w Da Db Ta Tb Ka Kb sa sb) (h1 : Ta ≤ Ta') (h2 : Ta' ≤ 100000) (h3 : Ka ≤ Ka') (h4 : Tb ≤ Tb') (h5 : Tb' ≤ 100000) (h6 : Kb ≤ Kb') : B2 W w Da Db Ta' Tb' Ka' Kb' sa sb := ⟨h.a.more h1 h2 h3, h.b.more h4 h5 h6, h.dis⟩
/-- something is done to the first -/
theorem B2.chg {W w w' : World} {Da Db Ta Ta' Tb Ka Ka' Kb : Nat} {sa sa' sb : DD} (h : B2 W w Da Db Ta Tb Ka Kb sa sb) (k : DOk w' W.heap.size Da Ta' sa') (f : Fr (own Da sa) w w') (n : Nw w.heap.size Da sa sa') (iv : IV Ka' sa') : B2 W w' Da Db Ta' Tb Ka' Kb sa' sb := by
  have hu := up_disk h.a.up h.a.lo f
  refine ⟨⟨k, hu, lo_disk h.a.up h.a.lo n, iv⟩, ⟨h.b.ok.fr f (fun b hb ha => h.dis b ha hb) (fun hm => ?_), hu, h.b.lo, h.b.iv⟩, fun b hb hb2 => ?_⟩
  · have h1 := h.a.lo _ hm
    have h2 := h.b.ok.low.1
    omega
  · rcases n b hb with h1 | h1
    · exact h.dis b h1 hb2
    · have := h.b.ok.lt hb2
      omega
theorem B2.act {W w w' : World} {Da Db Ta Tb Ka Kb : Nat} {sa sa' sb : DD} {kd : Int} {nm to : ByteArray} {p : Int} {ds : List UInt8} (h : B2 W w Da Db Ta Tb Ka Kb sa sb) (a : AftX w w' W.heap.size Da Ta sa sa') (e : Stp kd nm to p ds sa sa') (hd : ds.length ≤ 1048576) : B2 W w' Da Db (Ta + 3) Tb (Ka + 1) Kb sa' sb :=
  h.chg a.1 a.2.2 a.2.1 (h.a.iv.stp hd e h.a.ok.nD a.1.nD h.a.ok.nms)
theorem B2.fail {W w w' : World} {Da Db Ta Tb Ka Kb : Nat} {sa sb : DD} {n er : Int} (h : B2 W w Da Db Ta Tb Ka Kb sa sb) (k : DOk w' W.heap.size Da (Ta + 1) (faS sa n er)) (f : Fr (fun k => k = Da) w w') : B2 W w' Da Db (Ta + 1) Tb Ka Kb (faS sa n er) sb :=
  h.chg k (f.weak (fun _ hb => hb ▸ .inl rfl)) (fun _ hb => .inl hb) (h.a.iv.set _ _ _ _)
theorem B2.die {W w w' : World} {Da Db Ta Tb Ka Kb : Nat} {sa sb : DD} (h : B2 W w Da Db Ta Tb Ka Kb sa sb) (k : DOk w' W.heap.size Da (Ta + 1) (ddS sa)) (f : Fr (fun k => k = Da) w w') : B2 W w' Da Db (Ta + 1) Tb Ka Kb (ddS sa) sb :=
  h.chg k (f.weak (fun _ hb => hb ▸ .inl rfl)) (fun _ hb => .inl hb) (h.a.iv.set _ _ _ _)
theorem Sm.fsOf {φ : Nat → Nat} {s1 s2 : DD} (h : Sm φ s1 s2) : Go.Proofs.YtaibjeehjhlicaaGreatDoor.fsOf s1.nf = Go.Proofs.YtaibjeehjhlicaaGreatDoor.fsOf s2.nf := by
  unfold Go.Proofs.YtaibjeehjhlicaaGreatDoor.fsOf
  rw [h.names]
  exact List.map_congr_left (fun l _ => by rw [h.nbOf])
theorem Sm.pend {φ : Nat → Nat} {s1 s2 : DD} (h : Sm φ s1 s2) : s1.chs.length + Go.Proofs.YtaibjeehjhlicaaGreatDoor.lsd (Go.Proofs.YtaibjeehjhlicaaGreatDoor.fls s1) = s2.chs.length + Go.Proofs.YtaibjeehjhlicaaGreatDoor.lsd (Go.Proofs.YtaibjeehjhlicaaGreatDoor.fls s2) := by rw [h.clen, h.lsd]
theorem nwS_sm (M L M' L' : Nat) : Sm id (nwS 1099511627776 M L) (nwS 1099511627776 M' L') := ⟨rfl, rfl, rfl, rfl, fun _ => rfl, rfl⟩
theorem nw_own {w : World} {B D T M L : Nat} {k : Nat} (h : DOk w B D T (nwS 1099511627776 M L)) (hk : own D (nwS 1099511627776 M L) k) : k < w.heap.size := h.lt hk
/-- the same act on both -/
theorem Sm.both {φ : Nat → Nat} {sa sb ta tb : DD} {W w : World} {Da Db Ta Tb Ka Kb : Nat} (h : Sm φ sa sb) (b2 : B2 W w Da Db Ta Tb Ka Kb sa sb) (na : ND ta) {kd : Int} {nm to : ByteArray} {p : Int} {ds : List UInt8} (e1 : Eff kd nm to p ds (acS sa) ta) (e2 : Eff kd nm to p ds (acS sb) tb) : ∃ ψ, Sm ψ ta tb :=
  (show Sm φ (acS sa) (acS sb) from h.set _ _ _ _ _ _ _ _).eff (b2.a.iv.set (sa.acts + 1) (sa.unt - 1) sa.flt sa.dead).cw b2.a.ok.nD b2.b.ok.nD na e1 e2
theorem w64i {x : Int} (h : -9223372036854775808 ≤ x ∧ x ≤ 9223372036854775807) : wrap64 x = x := by unfold wrap64; omega
end Go.Proofs.YtaibjeehjhlicaaGreatDoor
namespace Go.Proofs.YtaibjeehjhlicaaGreatDoor
open Go.RowKit Go.Shelf TextNum ModNum
/-- what DiskFails' loop keeps -/
structure FI (W w : World) (Da Db n : Nat) (er : Int) (i acts left : Nat) (sa sb : DD) : Prop where
  b2 : B2 W w Da Db (3 * i + 1) (3 * i) i i sa sb
  sm : ∃ φ, Sm φ sa sb
  la : sa.dead = false
  lb : sb.dead = false
  ca : sa.acts = acts
  cb : sb.acts + left = acts
  ua : sa.unt = n - acts
  fa : sa.flt = er
  ub : sb.unt = 0
  ra : sa.room = 1099511627776
  lf : left = 0 ∨ (left = 1 ∧ n ≤ acts)
theorem FI.upTo {W w w' : World} {Da Db n : Nat} {er : Int} {i acts left : Nat} {sa sb : DD} (h : FI W w Da Db n er i acts left sa sb) (u : Up w w') : FI W w' Da Db n er i acts left sa sb :=
  ⟨h.b2.upTo u, h.sm, h.la, h.lb, h.ca, h.cb, h.ua, h.fa, h.ub, h.ra, h.lf⟩
theorem FI.next {W w : World} {Da Db n : Nat} {er : Int} {i acts left : Nat} {sa sb : DD} (h : FI W w Da Db n er i acts left sa sb) (hi : i < 200) : FI W w Da Db n er (i + 1) acts left sa sb :=
  ⟨h.b2.more (by omega) (by omega) (by omega) (by omega) (by omega) (by omega), h.sm, h.la, h.lb, h.ca, h.cb, h.ua, h.fa, h.ub, h.ra, h.lf⟩
/-- what the first disk's act answers -/
theorem FI.got {W w : World} {Da Db n : Nat} {er : Int} {i acts left : Nat} {sa sb : DD} (h : FI W w Da Db n er i acts left sa sb) (kd : Int) (nm to : ByteArray) (p : Int) (m : Nat) :
    erE kd nm to p m sa = if ownE kd nm to p m sa = 0 then (if n = acts + 1 then er else 0) else ownE kd nm to p m sa := by
  rw [erE_live h.la]
  unfold fau
  rw [h.ua, h.fa]
  by_cases hn : n = acts + 1
  · rw [if_pos (show n - acts = 1 by omega), if_pos hn]
  · rw [if_neg (show ¬ n - acts = 1 by omega), if_neg hn]
theorem FI.got2 {W w : World} {Da Db n : Nat} {er : Int} {i acts left : Nat} {sa sb : DD} (h : FI W w Da Db n er i acts left sa sb) (kd : Int) (nm to : ByteArray) (p : Int) (m : Nat) : erE kd nm to p m sb = ownE kd nm to p m sa := by
  obtain ⟨φ, hs⟩ := h.sm
  rw [erE_live h.lb, fau_zero h.ub, hs.own kd nm to p m]
  split
  · rename_i e; exact e.symm
  · rfl
/-- the named act: it does nothing -/
theorem FI.hit {W w w' : World} {Da Db n : Nat} {er : Int} {i acts left : Nat} {sa sb sa' : DD} {kd : Int} {nm to : ByteArray} {p : Int} {ds : List UInt8} (h : FI W w Da Db n er i acts left sa sb) (hi : i < 200) (hn : n = acts + 1) (he : er = 123 ∨ er = 124) (h0 : ownE kd nm to p ds.length sa = 0) (a : AftX w w' W.heap.size Da (3 * i + 1) sa sa') (e : Stp kd nm to p ds sa sa') (hd : ds.length ≤ 1048576) : FI W w' Da Db n er (i + 1) (acts + 1) 1 sa' sb := by
  have hf : fau sa = er := by
    unfold fau
    rw [h.ua, h.fa, if_pos (show n - acts = 1 by omega)]
  have e1 := e.bad h.la h0 (by rw [hf]; rcases he with rfl | rfl <;> decide) (by rw [hf]; rcases he with rfl | rfl <;> decide)
  have hb := h.b2.act a e hd
  subst e1
  obtain ⟨φ, hs⟩ := h.sm
  have hl : left = 0 := by
    rcases h.lf with q | ⟨_, q⟩
    · exact q
    · omega
  have hcb := h.cb
  refine ⟨hb.more (by omega) (by omega) (by omega) (by omega) (by omega) (by omega), ⟨φ, hs.set _ _ _ _ _ _ _ _⟩, h.la, h.lb, by show sa.acts + 1 = _; rw [h.ca], by omega, by show sa.unt - 1 = _; rw [h.ua]; omega, h.fa, h.ub, h.ra, .inr ⟨rfl, by omega⟩⟩
/-- the same act on both -/
theorem FI.same {W w w1 w' : World} {Da Db n : Nat} {er : Int} {i acts left : Nat} {sa sb sa' sb' : DD} {kd : Int} {nm to : ByteArray} {p : Int} {ds : List UInt8} (h : FI W w Da Db n er i acts left sa sb) (hi : i < 200) (hn : n = acts + 1 → ownE kd nm to p ds.length sa ≠ 0) (a : AftX w w1 W.heap.size Da (3 * i + 1) sa sa') (e : Stp kd nm to p ds sa sa') (b : AftX w1 w' W.heap.size Db (3 * i) sb sb') (e' : Stp kd nm to p ds sb sb') (hd : ds.length ≤ 1048576) : FI W w' Da Db n er (i + 1) (acts + 1) left sa' sb' := by
  obtain ⟨φ, hs⟩ := h.sm
  have hb1 := h.b2.act a e hd
  have hb := (hb1.swap.act b e' hd).swap
  obtain ⟨c1, c2, c3, c4⟩ := e.cnt h.la
  obtain ⟨d1, d2, d3, d4⟩ := e'.cnt h.lb
  have hfb := fau_zero h.ub
  have hcb := h.cb
  have hsm : (∃ ψ, Sm ψ sa' sb') ∧ sa'.dead = false ∧ sb'.dead = false := by
    by_cases h0 : ownE kd nm to p ds.length sa = 0
    · have hnn : ¬ n = acts + 1 := fun q => hn q h0
      have hf : fau sa = 0 := by
        unfold fau
        rw [h.ua, if_neg (show ¬ n - acts = 1 by omega)]
      have q1 := e.done h.la h0 hf
      have q2 := e'.done h.lb (by rw [← hs.own]; exact h0) hfb
      exact ⟨hs.both h.b2 a.1.nD q1 q2, e.lives h.la (by rw [hf]; decide), e'.lives h.lb (by rw [hfb]; decide)⟩
    · have q1 := e.own h.la h0
      have q2 := e'.own h.lb (by rw [← hs.own]; exact h0)
      subst q1 q2
      exact ⟨⟨φ, hs.set _ _ _ _ _ _ _ _⟩, h.la, h.lb⟩
  refine ⟨hb.more (by omega) (by omega) (by omega) (by omega) (by omega) (by omega), hsm.1, hsm.2.1, hsm.2.2, by rw [c2, h.ca], by rw [d2]; omega, by rw [c3, h.ua]; omega, by rw [c4, h.fa], by rw [d3, h.ub], by rw [c1, h.ra], ?_⟩
  rcases h.lf with q | ⟨q, q2⟩
  · exact .inl q
  · exact .inr ⟨q, by omega⟩
set_option maxRecDepth 100000 in
set_option maxHeartbeats 16000000 in
theorem fails_walk (a : Option Addr) (os : List OP) (c : Nat) (at_ : Int) (bl : Bool) (vC : Value) (cs : List Int) (w : World) (hP : SCR w a os c) (hC : SI w vC cs) (hcl : cs.length ≤ 17592186044416) (hll : os.length ≤ 4611686018427387904) (hG : ML w) (hV : 0 < w.heap.size) :
    Calls Tryz.prog 5 #[.slice a os.length c, .agg #[.int .i64 at_, .bool bl, vC]] w fun e w' => e = .returned (.bool true) ∧ Up w w' := by
  have HC := Hid.of hC
  obtain ⟨ac, cc, rfl, _⟩ := id hC
  have HB := Hid.of (at_new w 52 [.int .i64 at_, .bool bl, .slice ac cs.length cc])
  have HU0 := Hid.of ((Up.refl w).alloc (.cells [.int .i64 at_, .bool bl, .slice ac cs.length cc].toArray 52))
  have HP := Hid.of hP
  have hcap := hP.sl.cap
  obtain ⟨w1, hw1⟩ : ∃ w1, w.alloc (.cells [.int .i64 at_, .bool bl, .slice ac cs.length cc].toArray 52) = w1 := ⟨_, rfl⟩
  have HW1 := Hid.of hw1
  rw [hw1] at HB HU0
  have HV := Hid.of (show ML w1 ∧ 0 < w1.heap.size from ⟨hG.up HU0.out, Nat.lt_of_lt_of_le hV HU0.out.size⟩)
  have HBe := begun_nil w1.heap.size w1 HV.out.1 (Nat.le_refl _) HV.out.2
  rw [← hw1] at HBe
  have HBa := Hid.of HBe
  clear hP hG hV hC HBe hw1
  go_enter Tryz.func5, Tryz.ntmps5
  go_wp2_with fail
  refine HBa.out.mono ?_
  rintro e w2 ⟨Da, Ma, La, rfl, k2, l2, u2⟩
  have HA2 := Hid.of (show DOk w2 w1.heap.size Da 0 (nwS 1099511627776 Ma La) ∧ (∀ k, own Da (nwS 1099511627776 Ma La) k → w1.heap.size ≤ k) ∧ Up w1 w2 from by
    rw [← HW1.out]; exact ⟨k2, l2, u2⟩)
  clear k2 l2 u2 HBa HW1
  generalize w.heap.size = bx at HB ⊢
  dsimp only
  have HBb := Hid.of (begun_nil w1.heap.size w2 HA2.out.1.ml HA2.out.2.2.size HV.out.2)
  go_wp2_with fail
  refine HBb.out.mono ?_
  rintro e w3 ⟨Db, Mb, Lb, rfl, k3, l3, u3⟩
  have HB3 := Hid.of (show B2 w1 w3 Da Db 0 0 0 0 (nwS 1099511627776 Ma La) (nwS 1099511627776 Mb Lb) from ⟨⟨HA2.out.1.up u3, HA2.out.2.2.trans u3, HA2.out.2.1, nwS_iv _ _ _⟩, ⟨k3, HA2.out.2.2.trans u3, fun k hk => Nat.le_trans HA2.out.2.2.size (l3 k hk), nwS_iv _ _ _⟩, fun k ha hb => by
    have h1 := HA2.out.1.lt ha
    have h2 := l3 k hb
    omega⟩)
  clear k3 l3 u3 HBb HA2
  have hpa : ∀ w', (binOp .eql 24 (.pointer (some ⟨Da, 0, none⟩)) (.pointer none)).run Tryz.prog w' = .ok (.bool false) w' := fun w' => by kernel_rfl
  have hpb : ∀ w', (binOp .eql 24 (.pointer (some ⟨Db, 0, none⟩)) (.pointer none)).run Tryz.prog w' = .ok (.bool false) w' := fun w' => by kernel_rfl
  dsimp only
  have HH := Hid.of (head_walk w3 HB3.out.a.ok.ml (by have := HV.out.2; have := HB3.out.a.up.size; omega))
  go_wp2_with fail
  refine HH.out.mono ?_
  rintro e w4 ⟨rfl, u4⟩
  have HB4 := Hid.of (HB3.out.upTo u4)
  clear u4 HH HB3
  dsimp only
  have c0 := (HB.out.up HB4.out.a.up).cell (i := 0) rfl
  have c1 := (HB.out.up HB4.out.a.up).cell (i := 1) rfl
  go_wp2_with fail
  refine (within_one at_ os.length hll w4).mono ?_
  rintro e w5 ⟨n, hn1, hn2, rfl, h5⟩
  obtain rfl := h5.symm
  clear h5
  dsimp only
  cases bl
  · have HF := Hid.of (Fail_ok (n : Int) 124 w4 HB4.out.a.ok rfl (by decide) (by omega))
    go_wp2_with fail
    refine HF.out.mono ?_
    rintro e w6 ⟨rfl, k6, f6⟩
    have HJ6 := Hid.of (show FI w1 w6 Da Db n 124 0 0 0 (faS (nwS 1099511627776 Ma La) (n : Int) 124) (nwS 1099511627776 Mb Lb) from ⟨HB4.out.fail k6 f6, ⟨id, (nwS_sm Ma La Mb Lb).set _ _ _ _ _ _ _ _⟩, rfl, rfl, rfl, rfl, by show (n : Int).toNat = n - 0; omega, rfl, rfl, rfl, .inl rfl⟩)
    clear k6 f6 HF HB4 c0 c1 hpa hpb
    dsimp only
    go_wp2
    go_loopw [9, 10, 11] (fun v9 v10 v11 wr => ∃ acts left i : Nat, v9 = .int .i64 (acts : Int) ∧ v10 = .int .i64 (left : Int) ∧ v11 = .int .i64 (i : Int) ∧ i ≤ os.length ∧ i ≤ 200 ∧ acts ≤ i ∧ left ≤ 1 ∧ Hid (∃ sa sb, FI w1 wr Da Db n 124 i acts left sa sb)) (fun _ _ v11 _ => os.length - (intOf v11).toNat)
    case atStart => exact ⟨0, 0, 0, rfl, rfl, rfl, by omega, by omega, by omega, by omega, Hid.of ⟨_, _, HJ6.out⟩⟩
    case round =>
      obtain ⟨acts, left, i, rfl, rfl, rfl, hi, hi2, hac, hlf, hR⟩ := hrel
      obtain ⟨sa, sb, hJ⟩ := hR.out
      have HJ := Hid.of hJ
      clear hR hJ HJ6
      by_cases hlt : i < os.length ∧ i < 200
      · obtain ⟨hlt, hlt2⟩ := hlt
        have hltz : (i : Int) < (os.length : Int) := by omega
        have hlt2z : (i : Int) < 200 := by omega
        obtain ⟨b, off, rfl, hr⟩ := HP.out.sl.cells i hlt
        have HR := Hid.of (range_up hr (HU0.out.trans HJ.out.b2.a.up))
        have HOne := Hid.of (HP.out.sl.one os[i] (List.getElem_mem hlt))
        obtain ⟨ds, hds1, hds2, _⟩ := HP.out.dat os[i] (List.getElem_mem hlt)
        have HDs := Hid.of (And.intro hds1 hds2)
        have HBo := Hid.of (show (∀ k, own Da sa k → k ≠ wr.heap.size) ∧ ∀ k, own Db sb k → k ≠ wr.heap.size from ⟨fun k hk e => by have := HJ.out.b2.a.ok.lt hk; omega, fun k hk e => by have := HJ.out.b2.b.ok.lt hk; omega⟩)
        clear hr hds1 hds2
        obtain ⟨o, ho⟩ : ∃ o, os[i] = o := ⟨_, rfl⟩
        rw [ho] at HR HOne HDs
        clear ho
        go_wp2_with (with_reducible show wpList _ _ _ ({ dst := _, op := Op.indexAddr 22 _ _, type := _, pos := _, after := _, guard := _ } :: _) _ _; refine Shut.out ?_)
        show wpList _ _ _ _ _ _
        refine wpList_val7 (.pointer (some ⟨b, off + i * 9, none⟩)) rfl (exec_idxOp i hlt rfl rfl rfl) ?_
        simp only [Act.put, List.setIfInBounds_toArray, List.set_cons_zero, List.set_cons_succ]
        refine wpList_load_mid rfl _ _ rfl b (off + i * 9) rfl (opc o) _ HR.out Tryz.underlying55 rfl infoOp ?_
        simp only [Act.put, List.setIfInBounds_toArray, List.set_cons_zero, List.set_cons_succ]
        go_wp2_with (with_reducible show wpList _ _ _ ({ dst := _, op := Op.store 55 _ _, type := _, pos := _, after := _, guard := _ } :: _) _ _; refine Shut.out ?_)
        show wpList _ _ _ _ _ _
        refine wpList_store_at rfl 55 _ _ rfl wr.heap.size (at_new wr 55 [.int .i64 0, .int .i64 0, .string ⟨#[]⟩, .string ⟨#[]⟩, .int .i64 0, .int .i64 0, .slice none 0 0, .slice none 0 0, .slice none 0 0]) (opc o) rfl rfl rfl infoOp (by simpa using HOne.out) ?_
        intro w4 hA4 hg4
        have HA4 := Hid.of hA4
        have HU4 := Hid.of (((Up.refl wr).alloc (.cells [.int .i64 0, .int .i64 0, .string ⟨#[]⟩, .string ⟨#[]⟩, .int .i64 0, .int .i64 0, .slice none 0 0, .slice none 0 0, .slice none 0 0].toArray 55)).by hg4 (fun g hg => by have := Option.some.inj hg; omega))
        generalize wr.heap.size = bo at *
        clear hA4 hg4 HR HOne
        simp only [Act.put]
        go_wp2_with (with_reducible show wpList _ _ _ ({ dst := _, op := Op.load 55 _, type := _, pos := _, after := _, guard := _ } :: _) _ _; refine Shut.out ?_)
        show wpList _ _ _ _ _ _
        refine wpList_load_mid rfl _ _ rfl bo 0 rfl (opc o) _ HA4.out.range Tryz.underlying55 rfl infoOp ?_
        simp only [Act.put, List.setIfInBounds_toArray, List.set_cons_zero, List.set_cons_succ]
        go_wp2_with fail
        refine (plain_walk o ds w4 (HDs.out.1.up ((HU0.out.trans HJ.out.b2.a.up).trans HU4.out))).mono ?_
        rintro e w5 ⟨rfl, u5⟩
        have HA5 := Hid.of (HA4.out.up u5)
        have HU5 := Hid.of (HU4.out.trans u5)
        clear u5 HU4 HA4
        dsimp only
        have HJ5 := Hid.of (HJ.out.upTo HU5.out)
        have HD5 := Hid.of (HDs.out.1.up (HU0.out.trans HJ5.out.b2.a.up))
        clear HJ
        by_cases hp : plainP o ds.length
        · have hpd : (plainB o ds.length) = true := plainB_t hp
          have HPl := Hid.of hp
          clear hp
          go_wp2_with (with_reducible show wpList _ _ _ ({ dst := _, op := Op.load 55 _, type := _, pos := _, after := _, guard := _ } :: _) _ _; refine Shut.out ?_)
          show wpList _ _ _ _ _ _
          refine wpList_load_mid rfl _ _ rfl bo 0 rfl (opc o) _ HA5.out.range Tryz.underlying55 rfl infoOp ?_
          simp only [Act.put, List.setIfInBounds_toArray, List.set_cons_zero, List.set_cons_succ]
          have HCa := act_plain o ds w5 HJ5.out.b2.a.ok (by rw [HJ5.out.ua]; omega) (by omega) HPl.out HD5.out HJ5.out.b2.a.iv.cw (by have := HJ5.out.b2.a.iv.n0; omega) HJ5.out.b2.a.iv.ly
          have hzr := HJ5.out.b2.a.iv.room HJ5.out.ra (by omega) (kd := o.kd) (nm := o.nm) (to := o.to) (p := o.at_) HPl.out.2.2
          have hgt := HJ5.out.got o.kd o.nm o.to o.at_ ds.length
          have HGb := Hid.of (HJ5.out.got2 o.kd o.nm o.to o.at_ ds.length)
          rw [hgt] at HCa
          clear hgt
          obtain ⟨z, hz⟩ : ∃ z, ownE o.kd o.nm o.to o.at_ ds.length sa = z := ⟨_, rfl⟩
          rw [hz] at hzr HCa HGb
          have HZ := Hid.of hz
          clear hz
          have hz3 : (z == 123) = false := by rcases hzr with h | h | h | h <;> rw [h] <;> rfl
          have hz4 : (z == 124) = false := by rcases hzr with h | h | h | h <;> rw [h] <;> rfl
          have hzq : ¬ z = 123 ∧ ¬ z = 124 := by rcases hzr with h | h | h | h <;> rw [h] <;> decide
          clear hzr
          have HCC := Hid.of HCa
          clear HCa
          go_wp2_with fail
          refine HCC.out.mono ?_
          rintro e w9 ⟨rfl, sa', a9, p9⟩
          have HX := Hid.of (And.intro a9 p9)
          have HB9 := Hid.of (HJ5.out.b2.act a9 p9 HPl.out.2.2)
          have HA9 := Hid.of (show At w9 bo 55 (opc o) from a9.2.2.at HA5.out (fun hb => HBo.out.1 bo hb rfl))
          have HD9 := Hid.of (HDs.out.1.up (HU0.out.trans HB9.out.a.up))
          clear a9 p9 HCC
          dsimp only
          by_cases hn : n = acts + 1
          · have hnq : ((acts : Int) + 1 == (n : Int)) = true := by rw [beq_iff_eq]; omega
            have HNn := Hid.of hn
            by_cases h0 : z = 0
            · have hif : (if z = 0 then (if n = acts + 1 then (124 : Int) else 0) else z) = 124 := by rw [if_pos h0, if_pos hn]
              rw [hif]
              have HJ9 := Hid.of (HJ5.out.hit hlt2 hn (by decide) (HZ.out.trans h0) HX.out.1 HX.out.2 HPl.out.2.2)
              clear hif h0 hn hz3 hz4 hzq
              go_wp2
              go_roundw
              all_goals first
                | exact ⟨acts + 1, 1, i + 1, by go_num, rfl, by go_num, by omega, by omega, by omega, by omega, Hid.of ⟨_, _, HJ9.out⟩⟩
                | (simp [intOf]; omega)
            · have hif : (if z = 0 then (if n = acts + 1 then (124 : Int) else 0) else z) = z := if_neg h0
              rw [hif]
              have hz0 : (z == 0) = false := by rw [beq_eq_false_iff_ne]; exact h0
              have hz0' : ¬ z = 0 := h0
              clear hif hn
              go_wp2_with (with_reducible show wpList _ _ _ ({ dst := _, op := Op.load 55 _, type := _, pos := _, after := _, guard := _ } :: _) _ _; refine Shut.out ?_)
              show wpList _ _ _ _ _ _
              refine wpList_load_mid rfl _ _ rfl bo 0 rfl (opc o) _ HA9.out.range Tryz.underlying55 rfl infoOp ?_
              simp only [Act.put, List.setIfInBounds_toArray, List.set_cons_zero, List.set_cons_succ]
              have HCb := act_plain o ds w9 HB9.out.b.ok (by rw [HJ5.out.ub]; decide) (by omega) HPl.out HD9.out HB9.out.b.iv.cw (by have := HB9.out.b.iv.n0; omega) HB9.out.b.iv.ly
              rw [HGb.out] at HCb
              have HCC := Hid.of HCb
              clear HCb
              go_wp2_with fail
              refine HCC.out.mono ?_
              rintro e w10 ⟨rfl, sb', a10, p10⟩
              have HJ9 := Hid.of (HJ5.out.same hlt2 (fun _ => by rw [HZ.out]; exact hz0') HX.out.1 HX.out.2 a10 p10 HPl.out.2.2)
              clear a10 p10 HCC
              dsimp only
              go_wp2
              go_roundw
              all_goals first
                | exact ⟨acts + 1, left, i + 1, by go_num, rfl, by go_num, by omega, by omega, by omega, by omega, Hid.of ⟨_, _, HJ9.out⟩⟩
                | (simp [intOf]; omega)
          · have hnq : ((acts : Int) + 1 == (n : Int)) = false := by rw [beq_eq_false_iff_ne]; omega
            have HNn := Hid.of hn
            have hif : (if z = 0 then (if n = acts + 1 then (124 : Int) else 0) else z) = z := by
              by_cases h0 : z = 0
              · rw [if_pos h0, if_neg hn]; exact h0.symm
              · exact if_neg h0
            rw [hif]
            clear hif hn
            go_wp2_with (with_reducible show wpList _ _ _ ({ dst := _, op := Op.load 55 _, type := _, pos := _, after := _, guard := _ } :: _) _ _; refine Shut.out ?_)
            show wpList _ _ _ _ _ _
            refine wpList_load_mid rfl _ _ rfl bo 0 rfl (opc o) _ HA9.out.range Tryz.underlying55 rfl infoOp ?_
            simp only [Act.put, List.setIfInBounds_toArray, List.set_cons_zero, List.set_cons_succ]
            have HCb := act_plain o ds w9 HB9.out.b.ok (by rw [HJ5.out.ub]; decide) (by omega) HPl.out HD9.out HB9.out.b.iv.cw (by have := HB9.out.b.iv.n0; omega) HB9.out.b.iv.ly
            rw [HGb.out] at HCb
            have HCC := Hid.of HCb
            clear HCb
            go_wp2_with fail
            refine HCC.out.mono ?_
            rintro e w10 ⟨rfl, sb', a10, p10⟩
            have HJ9 := Hid.of (HJ5.out.same hlt2 (fun h => absurd h HNn.out) HX.out.1 HX.out.2 a10 p10 HPl.out.2.2)
            clear a10 p10 HCC
            dsimp only
            go_wp2
            go_roundw
            all_goals first
              | exact ⟨acts + 1, left, i + 1, by go_num, rfl, by go_num, by omega, by omega, by omega, by omega, Hid.of ⟨_, _, HJ9.out⟩⟩
              | (simp [intOf]; omega)
        · have hpd : (plainB o ds.length) = false := plainB_f hp
          clear hp
          go_wp2
          go_roundw
          all_goals first
            | exact ⟨acts, left, i + 1, rfl, rfl, by go_num, by omega, by omega, by omega, by omega, Hid.of ⟨_, _, HJ5.out.next hlt2⟩⟩
            | (simp [intOf]; omega)
      · have HJe := Hid.of (show ∃ t, t ≤ 200 ∧ FI w1 wr Da Db n 124 t acts left sa sb from ⟨i, hi2, HJ.out⟩)
        by_cases hlt2 : i < os.length
        · have hltz : (i : Int) < (os.length : Int) := by omega
          have hge : ¬ (i : Int) < 200 := by omega
          obtain ⟨t, ht, hJt⟩ := HJe.out
          have HJt := Hid.of hJt
          clear hJt HJe HJ
          have HAa := Acts_gen wr HJt.out.b2.a.ok
          rw [HJt.out.ca] at HAa
          have HAb := Acts_gen wr HJt.out.b2.b.ok
          rw [show (sb.acts : Int) = (acts : Int) - (left : Int) by have := HJt.out.cb; omega] at HAb
          have HAa2 := Hid.of HAa
          have HAb2 := Hid.of HAb
          clear HAa HAb
          go_wp2_with fail
          refine HAa2.out.mono ?_
          rintro e w7 ⟨rfl, h7⟩
          obtain rfl := h7.symm
          clear h7 HAa2
          dsimp only
          go_wp2_with fail
          refine HAb2.out.mono ?_
          rintro e w7 ⟨rfl, h7⟩
          obtain rfl := h7.symm
          clear h7 HAb2
          dsimp only
          obtain ⟨φ, hsm⟩ := HJt.out.sm
          have HSm := Hid.of hsm
          have HPa := Pending_gen wr HJt.out.b2.a.ok
          rw [hsm.pend] at HPa
          have HPa2 := Hid.of HPa
          obtain ⟨pe, hpe⟩ : ∃ pe, sb.chs.length + lsd (fls sb) = pe := ⟨_, rfl⟩
          have HPe := Hid.of hpe
          rw [hpe] at HPa2
          clear HPa hsm hpe
          go_wp2_with fail
          refine HPa2.out.mono ?_
          rintro e w8 ⟨rfl, u8⟩
          have HJ8 := Hid.of (HJt.out.upTo u8)
          clear u8 HPa2 HJt
          dsimp only
          have HPb := Pending_gen w8 HJ8.out.b2.b.ok
          rw [HPe.out] at HPb
          have HPb2 := Hid.of HPb
          clear HPb
          go_wp2_with fail
          refine HPb2.out.mono ?_
          rintro e w9 ⟨rfl, u9⟩
          have HJ9 := Hid.of (HJ8.out.upTo u9)
          clear u9 HPb2 HJ8
          dsimp only
          have HFa := Hid.of (Files_gen w9 HJ9.out.b2.a.ok HJ9.out.la (by
            have h5 := HJ9.out.b2.a.iv.cnt
            unfold fls at h5
            rw [List.length_append, List.length_map] at h5
            omega))
          go_wp2_with fail
          refine HFa.out.mono ?_
          rintro e w10 ⟨a10, f10, c10, rfl, o10, u10, e10⟩
          have HO10 := Hid.of (show FsO w10 w9.heap.size a10 f10 c10 ∧ f10.map pr = fsOf sa.nf from ⟨o10, e10⟩)
          have HJ10 := Hid.of (HJ9.out.upTo u10)
          clear o10 u10 e10 HFa HJ9
          dsimp only
          have HFb := Hid.of (Files_gen w10 HJ10.out.b2.b.ok HJ10.out.lb (by
            have h5 := HJ10.out.b2.b.iv.cnt
            unfold fls at h5
            rw [List.length_append, List.length_map] at h5
            omega))
          go_wp2_with fail
          refine HFb.out.mono ?_
          rintro e w11 ⟨a11, f11, c11, rfl, o11, u11, e11⟩
          have HO11 := Hid.of (show FsO w11 w10.heap.size a11 f11 c11 ∧ FsO w11 w9.heap.size a10 f10 c10 ∧ f10.map pr = f11.map pr from ⟨o11, HO10.out.1.up u11, by rw [HO10.out.2, HSm.out.fsOf]; exact e11.symm⟩)
          have HL10 := Hid.of (show f10.length ≤ 1099511627776 by
            have h5 := congrArg List.length HO10.out.2
            unfold fsOf at h5
            rw [List.length_map, List.length_map, srt_len, List.length_map] at h5
            have h6 := HJ10.out.b2.a.iv.cnt
            unfold fls at h6
            rw [List.length_append, List.length_map] at h6
            omega)
          have HJ11 := Hid.of (HJ10.out.upTo u11)
          clear o11 u11 e11 HFb HJ10 HO10
          dsimp only
          go_wp2_with fail
          refine (sameFiles_yes a10 a11 f10 f11 c10 c11 w11 HO11.out.2.1.fsl HO11.out.1.fsl HO11.out.2.2 HL10.out).mono ?_
          rintro e w12 ⟨rfl, u12⟩
          have HJ12 := Hid.of (HJ11.out.upTo u12)
          clear u12 HJ11 HO11 HL10
          dsimp only
          have c2 := (HB.out.up HJ12.out.b2.a.up).cell (i := 2) rfl
          have HAf := Hid.of (after_gen _ Da _ 2097152 sa (.slice ac cs.length cc) cs w12 HJ12.out.b2.a.ok (HC.out.up (HU0.out.trans HJ12.out.b2.a.up)) (HJ12.out.b2.a.iv.cf (by omega)) (by have := HJ12.out.b2.a.iv.n0; omega) hcl (by omega))
          go_wp2_with fail
          refine HAf.out.mono ?_
          rintro e w13 ⟨a13, f13, c13, gs, ws, rfl, o13, fr13, k13, l13, q13⟩
          have HB13 := Hid.of (HJ12.out.b2.die k13 fr13)
          have HO13 := Hid.of (And.intro o13 (And.intro l13 q13))
          have HDa := Hid.of (show Db < w12.heap.size from lt_of_at HJ12.out.b2.b.ok.disk)
          clear o13 fr13 k13 l13 q13 HAf c2
          dsimp only
          have c2 := (HB.out.up HB13.out.a.up).cell (i := 2) rfl
          have HAf := Hid.of (after_gen _ Db _ 2097152 sb (.slice ac cs.length cc) cs w13 HB13.out.b.ok (HC.out.up (HU0.out.trans HB13.out.a.up)) (HB13.out.b.iv.cf (by omega)) (by have := HB13.out.b.iv.n0; omega) hcl (by omega))
          go_wp2_with fail
          refine HAf.out.mono ?_
          rintro e w14 ⟨a14, f14, c14, gs', ws', rfl, o14, fr14, k14, l14, q14⟩
          have HE := Hid.of (show f13.map pr = f14.map pr by
            rw [HO13.out.2.2, q14]
            exact LF.same HSm.out HJ12.out.b2.a.iv.cw HJ12.out.b2.a.iv.tn HJ12.out.b2.b.ok.nD HO13.out.2.1 l14)
          have HO14 := Hid.of (show FsO w14 w12.heap.size a13 f13 c13 ∧ FsO w14 w13.heap.size a14 f14 c14 from ⟨HO13.out.1.fr fr14 (fun b hb => by
            obtain rfl : b = Db := hb
            exact HDa.out), o14⟩)
          have HU14 := Hid.of (HU0.out.trans (up_disk (s := sb) HB13.out.b.up HB13.out.b.lo (fr14.weak (fun _ hb => hb ▸ .inl rfl))))
          have HL13 := Hid.of (show f13.length ≤ 1099511627776 by
            have h5 := congrArg List.length HO13.out.2.2
            rw [List.length_map, (srF_perm HO13.out.2.1.ndl).length_eq, lfs_len] at h5
            have h6 := HO13.out.2.1.len (HJ12.out.b2.a.iv.cf (by omega))
            have h7 := HJ12.out.b2.a.iv.cnt
            omega)
          clear o14 fr14 k14 l14 q14 HAf c2 HO13 HB13
          dsimp only
          go_wp2_with fail
          refine (sameFiles_yes a13 a14 f13 f14 c13 c14 w14 HO14.out.1.fsl HO14.out.2.fsl HE.out HL13.out).mono ?_
          rintro e w15 ⟨rfl, u15⟩
          have HU15 := Hid.of (HU14.out.trans u15)
          clear u15
          dsimp only
          go_wp2
          go_ret
          exact ⟨rfl, HU15.out⟩
        · have hltz : ¬ (i : Int) < (os.length : Int) := by omega
          obtain ⟨t, ht, hJt⟩ := HJe.out
          have HJt := Hid.of hJt
          clear hJt HJe HJ
          have HAa := Acts_gen wr HJt.out.b2.a.ok
          rw [HJt.out.ca] at HAa
          have HAb := Acts_gen wr HJt.out.b2.b.ok
          rw [show (sb.acts : Int) = (acts : Int) - (left : Int) by have := HJt.out.cb; omega] at HAb
          have HAa2 := Hid.of HAa
          have HAb2 := Hid.of HAb
          clear HAa HAb
          go_wp2_with fail
          refine HAa2.out.mono ?_
          rintro e w7 ⟨rfl, h7⟩
          obtain rfl := h7.symm
          clear h7 HAa2
          dsimp only
          go_wp2_with fail
          refine HAb2.out.mono ?_
          rintro e w7 ⟨rfl, h7⟩
          obtain rfl := h7.symm
          clear h7 HAb2
          dsimp only
          obtain ⟨φ, hsm⟩ := HJt.out.sm
          have HSm := Hid.of hsm
          have HPa := Pending_gen wr HJt.out.b2.a.ok
          rw [hsm.pend] at HPa
          have HPa2 := Hid.of HPa
          obtain ⟨pe, hpe⟩ : ∃ pe, sb.chs.length + lsd (fls sb) = pe := ⟨_, rfl⟩
          have HPe := Hid.of hpe
          rw [hpe] at HPa2
          clear HPa hsm hpe
          go_wp2_with fail
          refine HPa2.out.mono ?_
          rintro e w8 ⟨rfl, u8⟩
          have HJ8 := Hid.of (HJt.out.upTo u8)
          clear u8 HPa2 HJt
          dsimp only
          have HPb := Pending_gen w8 HJ8.out.b2.b.ok
          rw [HPe.out] at HPb
          have HPb2 := Hid.of HPb
          clear HPb
          go_wp2_with fail
          refine HPb2.out.mono ?_
          rintro e w9 ⟨rfl, u9⟩
          have HJ9 := Hid.of (HJ8.out.upTo u9)
          clear u9 HPb2 HJ8
          dsimp only
          have HFa := Hid.of (Files_gen w9 HJ9.out.b2.a.ok HJ9.out.la (by
            have h5 := HJ9.out.b2.a.iv.cnt
            unfold fls at h5
            rw [List.length_append, List.length_map] at h5
            omega))
          go_wp2_with fail
          refine HFa.out.mono ?_
          rintro e w10 ⟨a10, f10, c10, rfl, o10, u10, e10⟩
          have HO10 := Hid.of (show FsO w10 w9.heap.size a10 f10 c10 ∧ f10.map pr = fsOf sa.nf from ⟨o10, e10⟩)
          have HJ10 := Hid.of (HJ9.out.upTo u10)
          clear o10 u10 e10 HFa HJ9
          dsimp only
          have HFb := Hid.of (Files_gen w10 HJ10.out.b2.b.ok HJ10.out.lb (by
            have h5 := HJ10.out.b2.b.iv.cnt
            unfold fls at h5
            rw [List.length_append, List.length_map] at h5
            omega))
          go_wp2_with fail
          refine HFb.out.mono ?_
          rintro e w11 ⟨a11, f11, c11, rfl, o11, u11, e11⟩
          have HO11 := Hid.of (show FsO w11 w10.heap.size a11 f11 c11 ∧ FsO w11 w9.heap.size a10 f10 c10 ∧ f10.map pr = f11.map pr from ⟨o11, HO10.out.1.up u11, by rw [HO10.out.2, HSm.out.fsOf]; exact e11.symm⟩)
          have HL10 := Hid.of (show f10.length ≤ 1099511627776 by
            have h5 := congrArg List.length HO10.out.2
            unfold fsOf at h5
            rw [List.length_map, List.length_map, srt_len, List.length_map] at h5
            have h6 := HJ10.out.b2.a.iv.cnt
            unfold fls at h6
            rw [List.length_append, List.length_map] at h6
            omega)
          have HJ11 := Hid.of (HJ10.out.upTo u11)
          clear o11 u11 e11 HFb HJ10 HO10
          dsimp only
          go_wp2_with fail
          refine (sameFiles_yes a10 a11 f10 f11 c10 c11 w11 HO11.out.2.1.fsl HO11.out.1.fsl HO11.out.2.2 HL10.out).mono ?_
          rintro e w12 ⟨rfl, u12⟩
          have HJ12 := Hid.of (HJ11.out.upTo u12)
          clear u12 HJ11 HO11 HL10
          dsimp only
          have c2 := (HB.out.up HJ12.out.b2.a.up).cell (i := 2) rfl
          have HAf := Hid.of (after_gen _ Da _ 2097152 sa (.slice ac cs.length cc) cs w12 HJ12.out.b2.a.ok (HC.out.up (HU0.out.trans HJ12.out.b2.a.up)) (HJ12.out.b2.a.iv.cf (by omega)) (by have := HJ12.out.b2.a.iv.n0; omega) hcl (by omega))
          go_wp2_with fail
          refine HAf.out.mono ?_
          rintro e w13 ⟨a13, f13, c13, gs, ws, rfl, o13, fr13, k13, l13, q13⟩
          have HB13 := Hid.of (HJ12.out.b2.die k13 fr13)
          have HO13 := Hid.of (And.intro o13 (And.intro l13 q13))
          have HDa := Hid.of (show Db < w12.heap.size from lt_of_at HJ12.out.b2.b.ok.disk)
          clear o13 fr13 k13 l13 q13 HAf c2
          dsimp only
          have c2 := (HB.out.up HB13.out.a.up).cell (i := 2) rfl
          have HAf := Hid.of (after_gen _ Db _ 2097152 sb (.slice ac cs.length cc) cs w13 HB13.out.b.ok (HC.out.up (HU0.out.trans HB13.out.a.up)) (HB13.out.b.iv.cf (by omega)) (by have := HB13.out.b.iv.n0; omega) hcl (by omega))
          go_wp2_with fail
          refine HAf.out.mono ?_
          rintro e w14 ⟨a14, f14, c14, gs', ws', rfl, o14, fr14, k14, l14, q14⟩
          have HE := Hid.of (show f13.map pr = f14.map pr by
            rw [HO13.out.2.2, q14]
            exact LF.same HSm.out HJ12.out.b2.a.iv.cw HJ12.out.b2.a.iv.tn HJ12.out.b2.b.ok.nD HO13.out.2.1 l14)
          have HO14 := Hid.of (show FsO w14 w12.heap.size a13 f13 c13 ∧ FsO w14 w13.heap.size a14 f14 c14 from ⟨HO13.out.1.fr fr14 (fun b hb => by
            obtain rfl : b = Db := hb
            exact HDa.out), o14⟩)
          have HU14 := Hid.of (HU0.out.trans (up_disk (s := sb) HB13.out.b.up HB13.out.b.lo (fr14.weak (fun _ hb => hb ▸ .inl rfl))))
          have HL13 := Hid.of (show f13.length ≤ 1099511627776 by
            have h5 := congrArg List.length HO13.out.2.2
            rw [List.length_map, (srF_perm HO13.out.2.1.ndl).length_eq, lfs_len] at h5
            have h6 := HO13.out.2.1.len (HJ12.out.b2.a.iv.cf (by omega))
            have h7 := HJ12.out.b2.a.iv.cnt
            omega)
          clear o14 fr14 k14 l14 q14 HAf c2 HO13 HB13
          dsimp only
          go_wp2_with fail
          refine (sameFiles_yes a13 a14 f13 f14 c13 c14 w14 HO14.out.1.fsl HO14.out.2.fsl HE.out HL13.out).mono ?_
          rintro e w15 ⟨rfl, u15⟩
          have HU15 := Hid.of (HU14.out.trans u15)
          clear u15
          dsimp only
          go_wp2
          go_ret
          exact ⟨rfl, HU15.out⟩
  · have HF := Hid.of (Fail_ok (n : Int) 123 w4 HB4.out.a.ok rfl (by decide) (by omega))
    go_wp2_with fail
    refine HF.out.mono ?_
    rintro e w6 ⟨rfl, k6, f6⟩
    have HJ6 := Hid.of (show FI w1 w6 Da Db n 123 0 0 0 (faS (nwS 1099511627776 Ma La) (n : Int) 123) (nwS 1099511627776 Mb Lb) from ⟨HB4.out.fail k6 f6, ⟨id, (nwS_sm Ma La Mb Lb).set _ _ _ _ _ _ _ _⟩, rfl, rfl, rfl, rfl, by show (n : Int).toNat = n - 0; omega, rfl, rfl, rfl, .inl rfl⟩)
    clear k6 f6 HF HB4 c0 c1 hpa hpb
    dsimp only
    go_wp2
    go_loopw [9, 10, 11] (fun v9 v10 v11 wr => ∃ acts left i : Nat, v9 = .int .i64 (acts : Int) ∧ v10 = .int .i64 (left : Int) ∧ v11 = .int .i64 (i : Int) ∧ i ≤ os.length ∧ i ≤ 200 ∧ acts ≤ i ∧ left ≤ 1 ∧ Hid (∃ sa sb, FI w1 wr Da Db n 123 i acts left sa sb)) (fun _ _ v11 _ => os.length - (intOf v11).toNat)
    case atStart => exact ⟨0, 0, 0, rfl, rfl, rfl, by omega, by omega, by omega, by omega, Hid.of ⟨_, _, HJ6.out⟩⟩
    case round =>
      obtain ⟨acts, left, i, rfl, rfl, rfl, hi, hi2, hac, hlf, hR⟩ := hrel
      obtain ⟨sa, sb, hJ⟩ := hR.out
      have HJ := Hid.of hJ
      clear hR hJ HJ6
      by_cases hlt : i < os.length ∧ i < 200
      · obtain ⟨hlt, hlt2⟩ := hlt
        have hltz : (i : Int) < (os.length : Int) := by omega
        have hlt2z : (i : Int) < 200 := by omega
        obtain ⟨b, off, rfl, hr⟩ := HP.out.sl.cells i hlt
        have HR := Hid.of (range_up hr (HU0.out.trans HJ.out.b2.a.up))
        have HOne := Hid.of (HP.out.sl.one os[i] (List.getElem_mem hlt))
        obtain ⟨ds, hds1, hds2, _⟩ := HP.out.dat os[i] (List.getElem_mem hlt)
        have HDs := Hid.of (And.intro hds1 hds2)
        have HBo := Hid.of (show (∀ k, own Da sa k → k ≠ wr.heap.size) ∧ ∀ k, own Db sb k → k ≠ wr.heap.size from ⟨fun k hk e => by have := HJ.out.b2.a.ok.lt hk; omega, fun k hk e => by have := HJ.out.b2.b.ok.lt hk; omega⟩)
        clear hr hds1 hds2
        obtain ⟨o, ho⟩ : ∃ o, os[i] = o := ⟨_, rfl⟩
        rw [ho] at HR HOne HDs
        clear ho
        go_wp2_with (with_reducible show wpList _ _ _ ({ dst := _, op := Op.indexAddr 22 _ _, type := _, pos := _, after := _, guard := _ } :: _) _ _; refine Shut.out ?_)
        show wpList _ _ _ _ _ _
        refine wpList_val7 (.pointer (some ⟨b, off + i * 9, none⟩)) rfl (exec_idxOp i hlt rfl rfl rfl) ?_
        simp only [Act.put, List.setIfInBounds_toArray, List.set_cons_zero, List.set_cons_succ]
        refine wpList_load_mid rfl _ _ rfl b (off + i * 9) rfl (opc o) _ HR.out Tryz.underlying55 rfl infoOp ?_
        simp only [Act.put, List.setIfInBounds_toArray, List.set_cons_zero, List.set_cons_succ]
        go_wp2_with (with_reducible show wpList _ _ _ ({ dst := _, op := Op.store 55 _ _, type := _, pos := _, after := _, guard := _ } :: _) _ _; refine Shut.out ?_)
        show wpList _ _ _ _ _ _
        refine wpList_store_at rfl 55 _ _ rfl wr.heap.size (at_new wr 55 [.int .i64 0, .int .i64 0, .string ⟨#[]⟩, .string ⟨#[]⟩, .int .i64 0, .int .i64 0, .slice none 0 0, .slice none 0 0, .slice none 0 0]) (opc o) rfl rfl rfl infoOp (by simpa using HOne.out) ?_
        intro w4 hA4 hg4
        have HA4 := Hid.of hA4
        have HU4 := Hid.of (((Up.refl wr).alloc (.cells [.int .i64 0, .int .i64 0, .string ⟨#[]⟩, .string ⟨#[]⟩, .int .i64 0, .int .i64 0, .slice none 0 0, .slice none 0 0, .slice none 0 0].toArray 55)).by hg4 (fun g hg => by have := Option.some.inj hg; omega))
        generalize wr.heap.size = bo at *
        clear hA4 hg4 HR HOne
        simp only [Act.put]
        go_wp2_with (with_reducible show wpList _ _ _ ({ dst := _, op := Op.load 55 _, type := _, pos := _, after := _, guard := _ } :: _) _ _; refine Shut.out ?_)
        show wpList _ _ _ _ _ _
        refine wpList_load_mid rfl _ _ rfl bo 0 rfl (opc o) _ HA4.out.range Tryz.underlying55 rfl infoOp ?_
        simp only [Act.put, List.setIfInBounds_toArray, List.set_cons_zero, List.set_cons_succ]
        go_wp2_with fail
        refine (plain_walk o ds w4 (HDs.out.1.up ((HU0.out.trans HJ.out.b2.a.up).trans HU4.out))).mono ?_
        rintro e w5 ⟨rfl, u5⟩
        have HA5 := Hid.of (HA4.out.up u5)
        have HU5 := Hid.of (HU4.out.trans u5)
        clear u5 HU4 HA4
        dsimp only
        have HJ5 := Hid.of (HJ.out.upTo HU5.out)
        have HD5 := Hid.of (HDs.out.1.up (HU0.out.trans HJ5.out.b2.a.up))
        clear HJ
        by_cases hp : plainP o ds.length
        · have hpd : (plainB o ds.length) = true := plainB_t hp
          have HPl := Hid.of hp
          clear hp
          go_wp2_with (with_reducible show wpList _ _ _ ({ dst := _, op := Op.load 55 _, type := _, pos := _, after := _, guard := _ } :: _) _ _; refine Shut.out ?_)
          show wpList _ _ _ _ _ _
          refine wpList_load_mid rfl _ _ rfl bo 0 rfl (opc o) _ HA5.out.range Tryz.underlying55 rfl infoOp ?_
          simp only [Act.put, List.setIfInBounds_toArray, List.set_cons_zero, List.set_cons_succ]
          have HCa := act_plain o ds w5 HJ5.out.b2.a.ok (by rw [HJ5.out.ua]; omega) (by omega) HPl.out HD5.out HJ5.out.b2.a.iv.cw (by have := HJ5.out.b2.a.iv.n0; omega) HJ5.out.b2.a.iv.ly
          have hzr := HJ5.out.b2.a.iv.room HJ5.out.ra (by omega) (kd := o.kd) (nm := o.nm) (to := o.to) (p := o.at_) HPl.out.2.2
          have hgt := HJ5.out.got o.kd o.nm o.to o.at_ ds.length
          have HGb := Hid.of (HJ5.out.got2 o.kd o.nm o.to o.at_ ds.length)
          rw [hgt] at HCa
          clear hgt
          obtain ⟨z, hz⟩ : ∃ z, ownE o.kd o.nm o.to o.at_ ds.length sa = z := ⟨_, rfl⟩
          rw [hz] at hzr HCa HGb
          have HZ := Hid.of hz
          clear hz
          have hz3 : (z == 123) = false := by rcases hzr with h | h | h | h <;> rw [h] <;> rfl
          have hz4 : (z == 124) = false := by rcases hzr with h | h | h | h <;> rw [h] <;> rfl
          have hzq : ¬ z = 123 ∧ ¬ z = 124 := by rcases hzr with h | h | h | h <;> rw [h] <;> decide
          clear hzr
          have HCC := Hid.of HCa
          clear HCa
          go_wp2_with fail
          refine HCC.out.mono ?_
          rintro e w9 ⟨rfl, sa', a9, p9⟩
          have HX := Hid.of (And.intro a9 p9)
          have HB9 := Hid.of (HJ5.out.b2.act a9 p9 HPl.out.2.2)
          have HA9 := Hid.of (show At w9 bo 55 (opc o) from a9.2.2.at HA5.out (fun hb => HBo.out.1 bo hb rfl))
          have HD9 := Hid.of (HDs.out.1.up (HU0.out.trans HB9.out.a.up))
          clear a9 p9 HCC
          dsimp only
          by_cases hn : n = acts + 1
          · have hnq : ((acts : Int) + 1 == (n : Int)) = true := by rw [beq_iff_eq]; omega
            have HNn := Hid.of hn
            by_cases h0 : z = 0
            · have hif : (if z = 0 then (if n = acts + 1 then (123 : Int) else 0) else z) = 123 := by rw [if_pos h0, if_pos hn]
              rw [hif]
              have HJ9 := Hid.of (HJ5.out.hit hlt2 hn (by decide) (HZ.out.trans h0) HX.out.1 HX.out.2 HPl.out.2.2)
              clear hif h0 hn hz3 hz4 hzq
              go_wp2
              go_roundw
              all_goals first
                | exact ⟨acts + 1, 1, i + 1, by go_num, rfl, by go_num, by omega, by omega, by omega, by omega, Hid.of ⟨_, _, HJ9.out⟩⟩
                | (simp [intOf]; omega)
            · have hif : (if z = 0 then (if n = acts + 1 then (123 : Int) else 0) else z) = z := if_neg h0
              rw [hif]
              have hz0 : (z == 0) = false := by rw [beq_eq_false_iff_ne]; exact h0
              have hz0' : ¬ z = 0 := h0
              clear hif hn
              go_wp2_with (with_reducible show wpList _ _ _ ({ dst := _, op := Op.load 55 _, type := _, pos := _, after := _, guard := _ } :: _) _ _; refine Shut.out ?_)
              show wpList _ _ _ _ _ _
              refine wpList_load_mid rfl _ _ rfl bo 0 rfl (opc o) _ HA9.out.range Tryz.underlying55 rfl infoOp ?_
              simp only [Act.put, List.setIfInBounds_toArray, List.set_cons_zero, List.set_cons_succ]
              have HCb := act_plain o ds w9 HB9.out.b.ok (by rw [HJ5.out.ub]; decide) (by omega) HPl.out HD9.out HB9.out.b.iv.cw (by have := HB9.out.b.iv.n0; omega) HB9.out.b.iv.ly
              rw [HGb.out] at HCb
              have HCC := Hid.of HCb
              clear HCb
              go_wp2_with fail
              refine HCC.out.mono ?_
              rintro e w10 ⟨rfl, sb', a10, p10⟩
              have HJ9 := Hid.of (HJ5.out.same hlt2 (fun _ => by rw [HZ.out]; exact hz0') HX.out.1 HX.out.2 a10 p10 HPl.out.2.2)
              clear a10 p10 HCC
              dsimp only
              go_wp2
              go_roundw
              all_goals first
                | exact ⟨acts + 1, left, i + 1, by go_num, rfl, by go_num, by omega, by omega, by omega, by omega, Hid.of ⟨_, _, HJ9.out⟩⟩
                | (simp [intOf]; omega)
          · have hnq : ((acts : Int) + 1 == (n : Int)) = false := by rw [beq_eq_false_iff_ne]; omega
            have HNn := Hid.of hn
            have hif : (if z = 0 then (if n = acts + 1 then (123 : Int) else 0) else z) = z := by
              by_cases h0 : z = 0
              · rw [if_pos h0, if_neg hn]; exact h0.symm
              · exact if_neg h0
            rw [hif]
            clear hif hn
            go_wp2_with (with_reducible show wpList _ _ _ ({ dst := _, op := Op.load 55 _, type := _, pos := _, after := _, guard := _ } :: _) _ _; refine Shut.out ?_)
            show wpList _ _ _ _ _ _
            refine wpList_load_mid rfl _ _ rfl bo 0 rfl (opc o) _ HA9.out.range Tryz.underlying55 rfl infoOp ?_
            simp only [Act.put, List.setIfInBounds_toArray, List.set_cons_zero, List.set_cons_succ]
            have HCb := act_plain o ds w9 HB9.out.b.ok (by rw [HJ5.out.ub]; decide) (by omega) HPl.out HD9.out HB9.out.b.iv.cw (by have := HB9.out.b.iv.n0; omega) HB9.out.b.iv.ly
            rw [HGb.out] at HCb
            have HCC := Hid.of HCb
            clear HCb
            go_wp2_with fail
            refine HCC.out.mono ?_
            rintro e w10 ⟨rfl, sb', a10, p10⟩
            have HJ9 := Hid.of (HJ5.out.same hlt2 (fun h => absurd h HNn.out) HX.out.1 HX.out.2 a10 p10 HPl.out.2.2)
            clear a10 p10 HCC
            dsimp only
            go_wp2
            go_roundw
            all_goals first
              | exact ⟨acts + 1, left, i + 1, by go_num, rfl, by go_num, by omega, by omega, by omega, by omega, Hid.of ⟨_, _, HJ9.out⟩⟩
              | (simp [intOf]; omega)
        · have hpd : (plainB o ds.length) = false := plainB_f hp
          clear hp
          go_wp2
          go_roundw
          all_goals first
            | exact ⟨acts, left, i + 1, rfl, rfl, by go_num, by omega, by omega, by omega, by omega, Hid.of ⟨_, _, HJ5.out.next hlt2⟩⟩
            | (simp [intOf]; omega)
      · have HJe := Hid.of (show ∃ t, t ≤ 200 ∧ FI w1 wr Da Db n 123 t acts left sa sb from ⟨i, hi2, HJ.out⟩)
        by_cases hlt2 : i < os.length
        · have hltz : (i : Int) < (os.length : Int) := by omega
          have hge : ¬ (i : Int) < 200 := by omega
          obtain ⟨t, ht, hJt⟩ := HJe.out
          have HJt := Hid.of hJt
          clear hJt HJe HJ
          have HAa := Acts_gen wr HJt.out.b2.a.ok
          rw [HJt.out.ca] at HAa
          have HAb := Acts_gen wr HJt.out.b2.b.ok
          rw [show (sb.acts : Int) = (acts : Int) - (left : Int) by have := HJt.out.cb; omega] at HAb
          have HAa2 := Hid.of HAa
          have HAb2 := Hid.of HAb
          clear HAa HAb
          go_wp2_with fail
          refine HAa2.out.mono ?_
          rintro e w7 ⟨rfl, h7⟩
          obtain rfl := h7.symm
          clear h7 HAa2
          dsimp only
          go_wp2_with fail
          refine HAb2.out.mono ?_
          rintro e w7 ⟨rfl, h7⟩
          obtain rfl := h7.symm
          clear h7 HAb2
          dsimp only
          obtain ⟨φ, hsm⟩ := HJt.out.sm
          have HSm := Hid.of hsm
          have HPa := Pending_gen wr HJt.out.b2.a.ok
          rw [hsm.pend] at HPa
          have HPa2 := Hid.of HPa
          obtain ⟨pe, hpe⟩ : ∃ pe, sb.chs.length + lsd (fls sb) = pe := ⟨_, rfl⟩
          have HPe := Hid.of hpe
          rw [hpe] at HPa2
          clear HPa hsm hpe
          go_wp2_with fail
          refine HPa2.out.mono ?_
          rintro e w8 ⟨rfl, u8⟩
          have HJ8 := Hid.of (HJt.out.upTo u8)
          clear u8 HPa2 HJt
          dsimp only
          have HPb := Pending_gen w8 HJ8.out.b2.b.ok
          rw [HPe.out] at HPb
          have HPb2 := Hid.of HPb
          clear HPb
          go_wp2_with fail
          refine HPb2.out.mono ?_
          rintro e w9 ⟨rfl, u9⟩
          have HJ9 := Hid.of (HJ8.out.upTo u9)
          clear u9 HPb2 HJ8
          dsimp only
          have HFa := Hid.of (Files_gen w9 HJ9.out.b2.a.ok HJ9.out.la (by
            have h5 := HJ9.out.b2.a.iv.cnt
            unfold fls at h5
            rw [List.length_append, List.length_map] at h5
            omega))
          go_wp2_with fail
          refine HFa.out.mono ?_
          rintro e w10 ⟨a10, f10, c10, rfl, o10, u10, e10⟩
          have HO10 := Hid.of (show FsO w10 w9.heap.size a10 f10 c10 ∧ f10.map pr = fsOf sa.nf from ⟨o10, e10⟩)
          have HJ10 := Hid.of (HJ9.out.upTo u10)
          clear o10 u10 e10 HFa HJ9
          dsimp only
          have HFb := Hid.of (Files_gen w10 HJ10.out.b2.b.ok HJ10.out.lb (by
            have h5 := HJ10.out.b2.b.iv.cnt
            unfold fls at h5
            rw [List.length_append, List.length_map] at h5
            omega))
          go_wp2_with fail
          refine HFb.out.mono ?_
          rintro e w11 ⟨a11, f11, c11, rfl, o11, u11, e11⟩
          have HO11 := Hid.of (show FsO w11 w10.heap.size a11 f11 c11 ∧ FsO w11 w9.heap.size a10 f10 c10 ∧ f10.map pr = f11.map pr from ⟨o11, HO10.out.1.up u11, by rw [HO10.out.2, HSm.out.fsOf]; exact e11.symm⟩)
          have HL10 := Hid.of (show f10.length ≤ 1099511627776 by
            have h5 := congrArg List.length HO10.out.2
            unfold fsOf at h5
            rw [List.length_map, List.length_map, srt_len, List.length_map] at h5
            have h6 := HJ10.out.b2.a.iv.cnt
            unfold fls at h6
            rw [List.length_append, List.length_map] at h6
            omega)
          have HJ11 := Hid.of (HJ10.out.upTo u11)
          clear o11 u11 e11 HFb HJ10 HO10
          dsimp only
          go_wp2_with fail
          refine (sameFiles_yes a10 a11 f10 f11 c10 c11 w11 HO11.out.2.1.fsl HO11.out.1.fsl HO11.out.2.2 HL10.out).mono ?_
          rintro e w12 ⟨rfl, u12⟩
          have HJ12 := Hid.of (HJ11.out.upTo u12)
          clear u12 HJ11 HO11 HL10
          dsimp only
          have c2 := (HB.out.up HJ12.out.b2.a.up).cell (i := 2) rfl
          have HAf := Hid.of (after_gen _ Da _ 2097152 sa (.slice ac cs.length cc) cs w12 HJ12.out.b2.a.ok (HC.out.up (HU0.out.trans HJ12.out.b2.a.up)) (HJ12.out.b2.a.iv.cf (by omega)) (by have := HJ12.out.b2.a.iv.n0; omega) hcl (by omega))
          go_wp2_with fail
          refine HAf.out.mono ?_
          rintro e w13 ⟨a13, f13, c13, gs, ws, rfl, o13, fr13, k13, l13, q13⟩
          have HB13 := Hid.of (HJ12.out.b2.die k13 fr13)
          have HO13 := Hid.of (And.intro o13 (And.intro l13 q13))
          have HDa := Hid.of (show Db < w12.heap.size from lt_of_at HJ12.out.b2.b.ok.disk)
          clear o13 fr13 k13 l13 q13 HAf c2
          dsimp only
          have c2 := (HB.out.up HB13.out.a.up).cell (i := 2) rfl
          have HAf := Hid.of (after_gen _ Db _ 2097152 sb (.slice ac cs.length cc) cs w13 HB13.out.b.ok (HC.out.up (HU0.out.trans HB13.out.a.up)) (HB13.out.b.iv.cf (by omega)) (by have := HB13.out.b.iv.n0; omega) hcl (by omega))
          go_wp2_with fail
          refine HAf.out.mono ?_
          rintro e w14 ⟨a14, f14, c14, gs', ws', rfl, o14, fr14, k14, l14, q14⟩
          have HE := Hid.of (show f13.map pr = f14.map pr by
            rw [HO13.out.2.2, q14]
            exact LF.same HSm.out HJ12.out.b2.a.iv.cw HJ12.out.b2.a.iv.tn HJ12.out.b2.b.ok.nD HO13.out.2.1 l14)
          have HO14 := Hid.of (show FsO w14 w12.heap.size a13 f13 c13 ∧ FsO w14 w13.heap.size a14 f14 c14 from ⟨HO13.out.1.fr fr14 (fun b hb => by
            obtain rfl : b = Db := hb
            exact HDa.out), o14⟩)
          have HU14 := Hid.of (HU0.out.trans (up_disk (s := sb) HB13.out.b.up HB13.out.b.lo (fr14.weak (fun _ hb => hb ▸ .inl rfl))))
          have HL13 := Hid.of (show f13.length ≤ 1099511627776 by
            have h5 := congrArg List.length HO13.out.2.2
            rw [List.length_map, (srF_perm HO13.out.2.1.ndl).length_eq, lfs_len] at h5
            have h6 := HO13.out.2.1.len (HJ12.out.b2.a.iv.cf (by omega))
            have h7 := HJ12.out.b2.a.iv.cnt
            omega)
          clear o14 fr14 k14 l14 q14 HAf c2 HO13 HB13
          dsimp only
          go_wp2_with fail
          refine (sameFiles_yes a13 a14 f13 f14 c13 c14 w14 HO14.out.1.fsl HO14.out.2.fsl HE.out HL13.out).mono ?_
          rintro e w15 ⟨rfl, u15⟩
          have HU15 := Hid.of (HU14.out.trans u15)
          clear u15
          dsimp only
          go_wp2
          go_ret
          exact ⟨rfl, HU15.out⟩
        · have hltz : ¬ (i : Int) < (os.length : Int) := by omega
          obtain ⟨t, ht, hJt⟩ := HJe.out
          have HJt := Hid.of hJt
          clear hJt HJe HJ
          have HAa := Acts_gen wr HJt.out.b2.a.ok
          rw [HJt.out.ca] at HAa
          have HAb := Acts_gen wr HJt.out.b2.b.ok
          rw [show (sb.acts : Int) = (acts : Int) - (left : Int) by have := HJt.out.cb; omega] at HAb
          have HAa2 := Hid.of HAa
          have HAb2 := Hid.of HAb
          clear HAa HAb
          go_wp2_with fail
          refine HAa2.out.mono ?_
          rintro e w7 ⟨rfl, h7⟩
          obtain rfl := h7.symm
          clear h7 HAa2
          dsimp only
          go_wp2_with fail
          refine HAb2.out.mono ?_
          rintro e w7 ⟨rfl, h7⟩
          obtain rfl := h7.symm
          clear h7 HAb2
          dsimp only
          obtain ⟨φ, hsm⟩ := HJt.out.sm
          have HSm := Hid.of hsm
          have HPa := Pending_gen wr HJt.out.b2.a.ok
          rw [hsm.pend] at HPa
          have HPa2 := Hid.of HPa
          obtain ⟨pe, hpe⟩ : ∃ pe, sb.chs.length + lsd (fls sb) = pe := ⟨_, rfl⟩
          have HPe := Hid.of hpe
          rw [hpe] at HPa2
          clear HPa hsm hpe
          go_wp2_with fail
          refine HPa2.out.mono ?_
          rintro e w8 ⟨rfl, u8⟩
          have HJ8 := Hid.of (HJt.out.upTo u8)
          clear u8 HPa2 HJt
          dsimp only
          have HPb := Pending_gen w8 HJ8.out.b2.b.ok
          rw [HPe.out] at HPb
          have HPb2 := Hid.of HPb
          clear HPb
          go_wp2_with fail
          refine HPb2.out.mono ?_
          rintro e w9 ⟨rfl, u9⟩
          have HJ9 := Hid.of (HJ8.out.upTo u9)
          clear u9 HPb2 HJ8
          dsimp only
          have HFa := Hid.of (Files_gen w9 HJ9.out.b2.a.ok HJ9.out.la (by
            have h5 := HJ9.out.b2.a.iv.cnt
            unfold fls at h5
            rw [List.length_append, List.length_map] at h5
            omega))
          go_wp2_with fail
          refine HFa.out.mono ?_
          rintro e w10 ⟨a10, f10, c10, rfl, o10, u10, e10⟩
          have HO10 := Hid.of (show FsO w10 w9.heap.size a10 f10 c10 ∧ f10.map pr = fsOf sa.nf from ⟨o10, e10⟩)
          have HJ10 := Hid.of (HJ9.out.upTo u10)
          clear o10 u10 e10 HFa HJ9
          dsimp only
          have HFb := Hid.of (Files_gen w10 HJ10.out.b2.b.ok HJ10.out.lb (by
            have h5 := HJ10.out.b2.b.iv.cnt
            unfold fls at h5
            rw [List.length_append, List.length_map] at h5
            omega))
          go_wp2_with fail
          refine HFb.out.mono ?_
          rintro e w11 ⟨a11, f11, c11, rfl, o11, u11, e11⟩
          have HO11 := Hid.of (show FsO w11 w10.heap.size a11 f11 c11 ∧ FsO w11 w9.heap.size a10 f10 c10 ∧ f10.map pr = f11.map pr from ⟨o11, HO10.out.1.up u11, by rw [HO10.out.2, HSm.out.fsOf]; exact e11.symm⟩)
          have HL10 := Hid.of (show f10.length ≤ 1099511627776 by
            have h5 := congrArg List.length HO10.out.2
            unfold fsOf at h5
            rw [List.length_map, List.length_map, srt_len, List.length_map] at h5
            have h6 := HJ10.out.b2.a.iv.cnt
            unfold fls at h6
            rw [List.length_append, List.length_map] at h6
            omega)
          have HJ11 := Hid.of (HJ10.out.upTo u11)
          clear o11 u11 e11 HFb HJ10 HO10
          dsimp only
          go_wp2_with fail
          refine (sameFiles_yes a10 a11 f10 f11 c10 c11 w11 HO11.out.2.1.fsl HO11.out.1.fsl HO11.out.2.2 HL10.out).mono ?_
          rintro e w12 ⟨rfl, u12⟩
          have HJ12 := Hid.of (HJ11.out.upTo u12)
          clear u12 HJ11 HO11 HL10
          dsimp only
          have c2 := (HB.out.up HJ12.out.b2.a.up).cell (i := 2) rfl
          have HAf := Hid.of (after_gen _ Da _ 2097152 sa (.slice ac cs.length cc) cs w12 HJ12.out.b2.a.ok (HC.out.up (HU0.out.trans HJ12.out.b2.a.up)) (HJ12.out.b2.a.iv.cf (by omega)) (by have := HJ12.out.b2.a.iv.n0; omega) hcl (by omega))
          go_wp2_with fail
          refine HAf.out.mono ?_
          rintro e w13 ⟨a13, f13, c13, gs, ws, rfl, o13, fr13, k13, l13, q13⟩
          have HB13 := Hid.of (HJ12.out.b2.die k13 fr13)
          have HO13 := Hid.of (And.intro o13 (And.intro l13 q13))
          have HDa := Hid.of (show Db < w12.heap.size from lt_of_at HJ12.out.b2.b.ok.disk)
          clear o13 fr13 k13 l13 q13 HAf c2
          dsimp only
          have c2 := (HB.out.up HB13.out.a.up).cell (i := 2) rfl
          have HAf := Hid.of (after_gen _ Db _ 2097152 sb (.slice ac cs.length cc) cs w13 HB13.out.b.ok (HC.out.up (HU0.out.trans HB13.out.a.up)) (HB13.out.b.iv.cf (by omega)) (by have := HB13.out.b.iv.n0; omega) hcl (by omega))
          go_wp2_with fail
          refine HAf.out.mono ?_
          rintro e w14 ⟨a14, f14, c14, gs', ws', rfl, o14, fr14, k14, l14, q14⟩
          have HE := Hid.of (show f13.map pr = f14.map pr by
            rw [HO13.out.2.2, q14]
            exact LF.same HSm.out HJ12.out.b2.a.iv.cw HJ12.out.b2.a.iv.tn HJ12.out.b2.b.ok.nD HO13.out.2.1 l14)
          have HO14 := Hid.of (show FsO w14 w12.heap.size a13 f13 c13 ∧ FsO w14 w13.heap.size a14 f14 c14 from ⟨HO13.out.1.fr fr14 (fun b hb => by
            obtain rfl : b = Db := hb
            exact HDa.out), o14⟩)
          have HU14 := Hid.of (HU0.out.trans (up_disk (s := sb) HB13.out.b.up HB13.out.b.lo (fr14.weak (fun _ hb => hb ▸ .inl rfl))))
          have HL13 := Hid.of (show f13.length ≤ 1099511627776 by
            have h5 := congrArg List.length HO13.out.2.2
            rw [List.length_map, (srF_perm HO13.out.2.1.ndl).length_eq, lfs_len] at h5
            have h6 := HO13.out.2.1.len (HJ12.out.b2.a.iv.cf (by omega))
            have h7 := HJ12.out.b2.a.iv.cnt
            omega)
          clear o14 fr14 k14 l14 q14 HAf c2 HO13 HB13
          dsimp only
          go_wp2_with fail
          refine (sameFiles_yes a13 a14 f13 f14 c13 c14 w14 HO14.out.1.fsl HO14.out.2.fsl HE.out HL13.out).mono ?_
          rintro e w15 ⟨rfl, u15⟩
          have HU15 := Hid.of (HU14.out.trans u15)
          clear u15
          dsimp only
          go_wp2
          go_ret
          exact ⟨rfl, HU15.out⟩
end Go.Proofs.YtaibjeehjhlicaaGreatDoor
