import Derived.Test.YtaibjeehjhlicaaGreatDoorQbs
namespace Go.Proofs.YtaibjeehjhlicaaGreatDoor
open Go.RowKit Go.Shelf TextNum ModNum
theorem own4 (nm to : ByteArray) (p : Int) (m : Nat) (s : DD) : ownE 4 nm to p m s = if fnE s nm.data.toList = 0 then wrF s.room (usd s.nf) (nbOf s.nf nm.data.toList).length p m else fnE s nm.data.toList := by
  unfold ownE; rw [if_neg (by decide), if_pos rfl]
theorem own5 (nm to : ByteArray) (p : Int) (m : Nat) (s : DD) : ownE 5 nm to p m s = fnE s nm.data.toList := by
  unfold ownE; rw [if_neg (by decide), if_neg (by decide), if_neg (by decide), if_neg (by decide)]
theorem own6 (nm to : ByteArray) (p : Int) (m : Nat) (s : DD) : ownE 6 nm to p m s = 0 := by
  unfold ownE; rw [if_neg (by decide), if_neg (by decide), if_pos rfl]
theorem eff4 {nm to : ByteArray} {p : Int} {ds : List UInt8} {s s' : DD} (h : ∃ f, (nm.data.toList, f) ∈ s.nf ∧ (ds = [] → s' = s) ∧ (ds ≠ [] → ∃ vn vo vk ba bk, s' = flS s f.b (wtF f p.toNat ds vn vo vk ba bk s.trn) (s.trn + 1))) : Eff 4 nm to p ds s s' := by
  unfold Eff; rw [if_neg (by decide), if_pos rfl]; exact h
theorem eff5 {nm to : ByteArray} {p : Int} {ds : List UInt8} {s s' : DD} (h : ∃ f v, (nm.data.toList, f) ∈ s.nf ∧ s' = syS s f v) : Eff 5 nm to p ds s s' := by
  unfold Eff; rw [if_neg (by decide), if_neg (by decide), if_pos rfl]; exact h
theorem eff6 {nm to : ByteArray} {p : Int} {ds : List UInt8} {s s' : DD} (h : ∃ nL dl, s' = snS s nL dl) : Eff 6 nm to p ds s s' := by
  unfold Eff; rw [if_neg (by decide), if_neg (by decide), if_neg (by decide), if_pos rfl]; exact h
set_option maxRecDepth 100000 in
set_option maxHeartbeats 4000000 in
theorem Write_yes3 {B D T : Nat} {s : DD} (nm to : ByteArray) (p : Int) (vd : Value) (ds : List UInt8) (w : World) (h : DOk w B D T s) (hu : s.unt ≤ 9223372036854775807) (hT : T + 3 ≤ 100000) (f : FL) (hfm : (nm.data.toList, f) ∈ s.nf) (hdt : Sb w vd ds) (hvd : vd.ownBlock ≠ some D) (hm : ds.length ≤ 1048576) :
    Calls Tryz.prog 22 #[pv D, .string nm, .int .i64 p, vd] w fun e w9 => e = .returned (.int .i64 (erE 4 nm to p ds.length s)) ∧ ∃ s', AftX w w9 B D T s s' ∧ Stp 4 nm to p ds s s' := by
  obtain ⟨ad, cd, rfl, _⟩ := id hdt
  obtain ⟨an, cn, hvn, _⟩ := h.file hfm
  have HD := Hid.of hdt
  have HVD := Hid.of hvd
  have HI := Hid.of h
  have HFM := Hid.of hfm
  have hnum := h.num
  have hsz := h.sz f (mem_fls_nf hfm)
  have HNum := Hid.of hnum
  have hnb : ownE 4 nm to p ds.length s = wrF s.room (usd s.nf) f.nb.length p ds.length := by rw [own4, if_pos (fnE_of h hfm), nbOf_mem h.nd hfm]
  have HNB := Hid.of hnb
  clear hdt h hfm hvd
  obtain ⟨er, her⟩ : ∃ er, wrF s.room (usd s.nf) f.nb.length p ds.length = er := ⟨_, rfl⟩
  have HER := Hid.of her
  have a1 := at_new w 24 [pv D]
  have a2 := at_new (w.alloc (.cells [pv D].toArray 24)) 3 [.int .i64 p]
  have a3 := at_new ((w.alloc (.cells [pv D].toArray 24)).alloc (.cells [.int .i64 p].toArray 3)) 41 [.slice ad ds.length cd]
  rw [alloc_size] at a2
  rw [alloc_size, alloc_size] at a3
  have HA1 := Hid.of (a1.up (((Up.refl _).alloc (.cells [.int .i64 p].toArray 3)).alloc (.cells [.slice ad ds.length cd].toArray 41)))
  have HA2 := Hid.of (a2.up ((Up.refl _).alloc (.cells [.slice ad ds.length cd].toArray 41)))
  have HA3 := Hid.of a3
  have HUa := Hid.of ((((Up.refl w).alloc (.cells [pv D].toArray 24)).alloc (.cells [.int .i64 p].toArray 3)).alloc (.cells [.slice ad ds.length cd].toArray 41))
  clear a1 a2 a3
  obtain ⟨ee, hee⟩ : ∃ ee : Int, erE 4 nm to p ds.length s = ee := ⟨_, rfl⟩
  rw [hee]
  have HEE := Hid.of hee
  clear her hee hnb
  go_enter Tryz.func22, Tryz.ntmps22
  go_wp2_with fail
  generalize hWa : ((w.alloc (.cells [pv D].toArray 24)).alloc (.cells [.int .i64 p].toArray 3)).alloc (.cells [.slice ad ds.length cd].toArray 41) = Wa at *
  have HIa := Hid.of (HI.out.up HUa.out)
  refine (find_yes nm f Wa HIa.out HFM.out).mono ?_
  rintro e w2 ⟨rfl, u2⟩
  have HU2 := Hid.of (HUa.out.trans u2)
  have HA1b := Hid.of (HA1.out.up u2)
  have HA2b := Hid.of (HA2.out.up u2)
  have HA3b := Hid.of (HA3.out.up u2)
  clear u2 HA1 HA2 HA3 HUa HIa hWa
  dsimp only
  have HA4 := Hid.of (at_new w2 88 [pv f.b])
  have HU23 := Hid.of ((Up.refl w2).alloc (.cells [pv f.b].toArray 88))
  have hw2 : (w2.alloc (.cells [pv f.b].toArray 88)) = (w2.alloc (.cells #[pv f.b] 88)) := rfl
  have c1 := (HA1b.out.up HU23.out).cell (i := 0) rfl
  have c2 := (HA2b.out.up HU23.out).cell (i := 0) rfl
  have c3 := (HA3b.out.up HU23.out).cell (i := 0) rfl
  have c4 := HA4.out.cell (i := 0) rfl
  rw [hw2] at c1 c2 c3 c4 HA4 HU23
  go_wp2_with fail
  generalize w2.alloc (.cells #[pv f.b] 88) = W3 at *
  have HU3 := Hid.of (HU2.out.trans HU23.out)
  have HI3 := Hid.of (HI.out.up HU3.out)
  have hf3 := (HI3.out.fok f (mem_fls_nf HFM.out)).file
  rw [hvn] at hf3
  refine (writeError_gen D f.b f.nb.length ds.length s.room (usd s.nf) p an ad cn cd _ _ _ _ _ _ _ _ _ _ _ _ W3 HI3.out.disk hf3 (by omega) (by omega) (by omega) (by omega)).mono ?_
  rw [HER.out]
  rintro e w4 ⟨rfl, u4⟩
  have HU34 := Hid.of (HU23.out.trans u4)
  have HU4 := Hid.of (HU3.out.trans u4)
  have HI4 := Hid.of (HI.out.up HU4.out)
  have HB1 := Hid.of ((HA1b.out.up HU23.out).up u4)
  have HB2 := Hid.of ((HA2b.out.up HU23.out).up u4)
  have HB3 := Hid.of ((HA3b.out.up HU23.out).up u4)
  have HB4 := Hid.of (HA4.out.up u4)
  generalize w2.heap.size = bf at *
  clear u4 HI3 hf3 HA1b HA2b HA3b HA4 HU23 HU34 c1 c2 c3 c4 hw2 HU2 HU3
  dsimp only
  have c1 := HB1.out.cell (i := 0) rfl
  have HAct := Hid.of (show Calls Tryz.prog 45 #[pv D, .int .i64 er, .func (.func 57) #[] #[pv (w.heap.size + 1 + 1), pv w.heap.size, pv bf, pv (w.heap.size + 1)]] w4 (fun e w9 => e = .returned (.int .i64 ee) ∧ ∃ s', AftX w w9 B D T s s' ∧ Stp 4 nm to p ds s s') from by
    rw [← HEE.out, show er = ownE 4 nm to p ds.length s from HER.out.symm.trans HNB.out.symm]
    refine actX_Write 4 nm to p ds _ _ _ _ w w4 HI4.out HU4.out hu hT (fun hd ho w1 h4 f4 g4 => ?_)
    rw [HNB.out] at ho
    obtain ⟨p0, p1, p2⟩ := wrF_ok ho
    obtain ⟨pn, rfl⟩ : ∃ pn : Nat, p = pn := ⟨p.toNat, by omega⟩
    have dd1 : Sb w1 (.slice ad ds.length cd) ds := (HD.out.up HU4.out).kept g4 (.inr HVD.out)
    refine (Write1_walk (w.heap.size + 1 + 1) w.heap.size bf (w.heap.size + 1) D f.b pn (.slice ad ds.length cd) ds w1 (fun w9 => ∃ s2, Aft w w9 B D T s s2 ∧ Eff 4 nm to pn ds (acS s) s2) (f4.at HB3.out (fun e => HB3.out.ne HI4.out.disk (by decide) e)) (f4.at HB1.out (fun e => HB1.out.ne HI4.out.disk (by decide) e)) (f4.at HB4.out (fun e => HB4.out.ne HI4.out.disk (by decide) e)) (f4.at HB2.out (fun e => HB2.out.ne HI4.out.disk (by decide) e)) dd1 (fun h0 => ?_) (fun h0 => ?_))
    · exact ⟨acS s, ⟨h4.more (by omega) (by omega), fun k hk => .inl hk, ((Fr.refl (own D s) w).up HU4.out).trans f4 (fun g hg => .inl (.inl hg))⟩, eff4 ⟨f, HFM.out, fun _ => rfl, fun h => absurd h0 h⟩⟩
    · have hrm := HNum.out
      have hgr : (usd s.nf : Int) + gro f.nb.length pn ds.length ≤ 1099511627776 := by
        rcases Int.lt_or_le 0 (gro f.nb.length pn ds.length) with h1 | h1
        · have := p2 h1; omega
        · omega
      refine (write_dd nm.data.toList f pn (.slice ad ds.length cd) ds w1 h4 HFM.out dd1 h0 (by omega) (by omega) (by omega) hgr (by omega)).mono ?_
      rintro e w9 ⟨rfl, vn, vo, vk, ba, bk, q1, q2, q3⟩
      refine ⟨rfl, _, ⟨q1, ?_, (((Fr.refl (own D s) w).up HU4.out).trans f4 (fun g hg => .inl (.inl hg))).trans q3 (fun g hg => .inl hg)⟩, eff4 ⟨f, HFM.out, fun h => absurd h h0, fun _ => ⟨vn, vo, vk, ba, bk, rfl⟩⟩⟩
      exact Nw.trans (s1 := acS s) (fun k hk => .inl hk) q2 (by have := HU4.out.size; have := f4.size; omega))
  clear HD HI HI4 HB2 HB3 HB4 hvn HNB HEE HER hnum hsz HNum
  go_wp2_with fail
  refine HAct.out.mono ?_
  rintro e w9 ⟨rfl, hP⟩
  have HP := Hid.of hP
  clear hP HAct
  dsimp only
  go_wp2
  go_ret
  exact ⟨rfl, HP.out⟩
set_option maxRecDepth 100000 in
set_option maxHeartbeats 4000000 in
theorem Write_no3 {B D T : Nat} {s : DD} (nm to : ByteArray) (p : Int) (vd : Value) (ds : List UInt8) (w : World) (h : DOk w B D T s) (hu : s.unt ≤ 9223372036854775807) (hT : T + 3 ≤ 100000) (hfe : fnE s nm.data.toList ≠ 0) (hdt : Sb w vd ds) :
    Calls Tryz.prog 22 #[pv D, .string nm, .int .i64 p, vd] w fun e w9 => e = .returned (.int .i64 (erE 4 nm to p ds.length s)) ∧ ∃ s', AftX w w9 B D T s s' ∧ Stp 4 nm to p ds s s' := by
  obtain ⟨ad, cd, rfl, _⟩ := id hdt
  have HI := Hid.of h
  clear hdt h
  obtain ⟨er, her⟩ : ∃ er : Int, erE 4 nm to p ds.length s = er := ⟨_, rfl⟩
  obtain ⟨oe, hoe⟩ : ∃ oe : Int, fnE s nm.data.toList = oe := ⟨_, rfl⟩
  have hoz : (oe == 0) = false := by rw [beq_eq_false_iff_ne]; exact fun e => hfe (hoe.trans e)
  have HFe := Hid.of (fun w3 (h3 : DOk w3 B D T s) => (by rw [← hoe]; exact find_err nm w3 h3 hfe : Calls Tryz.prog 44 #[pv D, .string nm] w3 fun e w' => e = .returned (.tuple #[.pointer none, .int .i64 oe]) ∧ Up w3 w'))
  have ho4 : ownE 4 nm to p ds.length s = oe := by rw [own4, if_neg hfe]; exact hoe
  have HPo := Hid.of (show ∀ (c0 c1 c2 c3 : Value) w3, Up w w3 → Calls Tryz.prog 45 #[pv D, .int .i64 oe, .func (.func 57) #[] #[c0, c1, c2, c3]] w3 fun e w9 => e = .returned (.int .i64 er) ∧ ∃ s', AftX w w9 B D T s s' ∧ Stp 4 nm to p ds s s' from fun c0 c1 c2 c3 w3 u3 => by
    rw [← her, ← ho4]
    refine actX_Write 4 nm to p ds _ _ _ _ w w3 (HI.out.up u3) u3 hu hT (fun hd ho => ?_)
    exact absurd (ho4.symm.trans ho) (fun e => hfe (hoe.trans e)))
  have a1 := at_new w 24 [pv D]
  have a2 := at_new (w.alloc (.cells [pv D].toArray 24)) 3 [.int .i64 p]
  have a3 := at_new ((w.alloc (.cells [pv D].toArray 24)).alloc (.cells [.int .i64 p].toArray 3)) 41 [.slice ad ds.length cd]
  rw [alloc_size] at a2
  rw [alloc_size, alloc_size] at a3
  have HA1 := Hid.of (a1.up (((Up.refl _).alloc (.cells [.int .i64 p].toArray 3)).alloc (.cells [.slice ad ds.length cd].toArray 41)))
  have HUa := Hid.of ((((Up.refl w).alloc (.cells [pv D].toArray 24)).alloc (.cells [.int .i64 p].toArray 3)).alloc (.cells [.slice ad ds.length cd].toArray 41))
  clear a1 a2 a3
  rw [her]
  clear her ho4 hoe hfe
  go_enter Tryz.func22, Tryz.ntmps22
  go_wp2_with fail
  generalize hWa : ((w.alloc (.cells [pv D].toArray 24)).alloc (.cells [.int .i64 p].toArray 3)).alloc (.cells [.slice ad ds.length cd].toArray 41) = Wa at *
  refine (HFe.out Wa (HI.out.up HUa.out)).mono ?_
  rintro e w2 ⟨rfl, u2⟩
  have HU2 := Hid.of (HUa.out.trans u2)
  have HA1b := Hid.of (HA1.out.up u2)
  clear u2 HA1 HUa hWa HFe
  dsimp only
  have HU23 := Hid.of ((Up.refl w2).alloc (.cells [Value.pointer none].toArray 88))
  have hw2 : (w2.alloc (.cells [Value.pointer none].toArray 88)) = (w2.alloc (.cells #[Value.pointer none] 88)) := rfl
  have c1 := (HA1b.out.up HU23.out).cell (i := 0) rfl
  rw [hw2] at c1 HU23
  go_wp2_with fail
  generalize w2.alloc (.cells #[Value.pointer none] 88) = W3 at *
  refine (HPo.out _ _ _ _ W3 (HU2.out.trans HU23.out)).mono ?_
  rintro e w9 ⟨rfl, hP⟩
  have HP := Hid.of hP
  clear hP HPo
  dsimp only
  go_wp2
  go_ret
  exact ⟨rfl, HP.out⟩
theorem Write_all {B D T : Nat} {s : DD} (nm to : ByteArray) (p : Int) (vd : Value) (ds : List UInt8) (w : World) (h : DOk w B D T s) (hu : s.unt ≤ 9223372036854775807) (hT : T + 3 ≤ 100000) (hdt : Sb w vd ds) (hvd : vd.ownBlock ≠ some D) (hm : ds.length ≤ 1048576) :
    Calls Tryz.prog 22 #[pv D, .string nm, .int .i64 p, vd] w fun e w9 => e = .returned (.int .i64 (erE 4 nm to p ds.length s)) ∧ ∃ s', AftX w w9 B D T s s' ∧ Stp 4 nm to p ds s s' := by
  by_cases hf : fnE s nm.data.toList = 0
  · obtain ⟨f, hfm⟩ := fnE_get hf
    exact Write_yes3 nm to p vd ds w h hu hT f hfm hdt hvd hm
  · exact Write_no3 nm to p vd ds w h hu hT hf hdt
end Go.Proofs.YtaibjeehjhlicaaGreatDoor
namespace Go.Proofs.YtaibjeehjhlicaaGreatDoor
open Go.RowKit Go.Shelf TextNum ModNum
theorem Fr.frs {S : Nat → Prop} {a b : World} (h : Fr S a b) : a.heap.size ≤ b.heap.size := h.size
set_option maxRecDepth 100000 in
set_option maxHeartbeats 1000000 in
theorem sync1_dd {B D T : Nat} {s : DD} (l : List UInt8) (f : FL) (b1 b2 : Nat) (w : World) (h : DOk w B D T s) (hfm : (l, f) ∈ s.nf) (h1 : At w b1 24 [pv D]) (h2 : At w b2 88 [pv f.b]) (hl : (lay f.lb f.lo).length ≤ 1099511627776) (hT : T + 1 ≤ 100000) :
    Calls Tryz.prog 46 #[pv b1, pv b2] w fun e w' => e = .returned (.tuple #[]) ∧ ∃ v, DOk w' B D (T + 1) (syS s f v) ∧ Nw w.heap.size D s (syS s f v) ∧ Fr (own D s) w w' := by
  have hok := h.fok f (mem_fls_nf hfm)
  have hsz := h.sz f (mem_fls_nf hfm)
  have hnum := h.num
  have HS := Hid.of (settle_gen B D (lsd (fls s) : Int) f _ _ _ _ _ _ _ _ _ _ _ w hok h.disk h.hB (by omega) (by omega) (by omega) (by omega))
  have HP := Hid.of (show ∀ w' v, At w' D 85 [.int .i64 (s.room : Int), .int .i64 (usd s.nf : Int), .bool s.dead, .map (some s.M), .map (some s.L), s.vC, s.vLo, .int .i64 ((lsd (fls s) : Int) - f.lo.length), .int .i64 (s.trn : Int), .int .i64 (s.acts : Int), .int .i64 (s.unt : Int), .int .i64 s.flt] → FOk w' B { f with vl := v, lb := lay f.lb f.lo, vo := .slice none 0 0, lo := [] } → Frs w f.vl v → Fr (fun k => k = D ∨ k = f.b ∨ f.vl.ownBlock = some k) w w' → DOk w' B D (T + 1) (syS s f v) ∧ Nw w.heap.size D s (syS s f v) ∧ Fr (own D s) w w' from fun w' v hd hF hfs hfr => by
    have hmem : ∀ b, b = D ∨ b = f.b ∨ f.vl.ownBlock = some b → b = D ∨ (b ∈ fbs f ∧ B ≤ b) := fun b hb => by
      rcases hb with hb | hb | hb
      · exact .inl hb
      · exact .inr ⟨by rw [hb]; exact List.mem_cons_self, by rw [hb]; exact hok.low⟩
      · exact .inr ⟨List.mem_cons_of_mem _ (List.mem_append_right _ (List.mem_append_left _ (mem_vbs.2 hb))), (World.ownsRow.lt hok.last b hb).1⟩
    obtain ⟨n1, n2, n3, n4⟩ := lsd_flS h hfm (f' := syF f v) s.trn
    have e1 : usd (rpl s.nf f.b (syF f v)) = usd s.nf := by
      have : (syF f v).nb.length = f.nb.length := rfl
      omega
    have e2 : ((lsd (fls (flS s f.b (syF f v) s.trn)) : Nat) : Int) = (lsd (fls s) : Int) - f.lo.length := by
      have : (syF f v).lo.length = 0 := rfl
      omega
    obtain ⟨q1, q2⟩ := h.filed hfm (f' := syF f v) s.trn hfr hmem hF ⟨rfl, fun k hk => by
      have hk : k ∈ f.b :: (vbs f.vn ++ (vbs v ++ (vbs (.slice none 0 0) ++ []))) := hk
      rcases List.mem_cons.1 hk with hk | hk
      · exact .inl (by rw [hk]; exact List.mem_cons_self)
      · rcases List.mem_append.1 hk with hk | hk
        · exact .inl (List.mem_cons_of_mem _ (List.mem_append_left _ hk))
        · rcases List.mem_append.1 hk with hk | hk
          · rcases hfs k (mem_vbs.1 hk) with h5 | h5
            · exact .inl (List.mem_cons_of_mem _ (List.mem_append_right _ (List.mem_append_left _ (mem_vbs.2 h5))))
            · exact .inr h5
          · rw [List.append_nil] at hk
            cases mem_vbs.1 hk⟩ (by
      show At w' D 85 [.int .i64 (s.room : Int), .int .i64 ((usd (rpl s.nf f.b (syF f v)) : Nat) : Int), .bool s.dead, .map (some s.M), .map (some s.L), s.vC, s.vLo, .int .i64 ((lsd (fls (flS s f.b (syF f v) s.trn)) : Nat) : Int), .int .i64 (s.trn : Int), .int .i64 (s.acts : Int), .int .i64 (s.unt : Int), .int .i64 s.flt]
      rw [e1, e2]
      exact hd) ⟨hsz.1, hl, Nat.zero_le _⟩ (by omega) (by omega) (by rw [e1]; omega) hT
    exact ⟨q1, q2, hfr.weak (fun b hb => by
      rcases hmem b hb with h5 | ⟨h5, _⟩
      · exact .inl h5
      · exact .inr (.inr (.inr (.inr (.inr (.inl ⟨f, mem_fls_nf hfm, h5⟩))))))⟩)
  have c1 := h1.cell (i := 0) rfl
  have c2 := h2.cell (i := 0) rfl
  clear h h1 h2 hok hsz hnum hl hfm
  go_enter Tryz.func46, Tryz.ntmps46
  go_wp2_with fail
  refine HS.out.mono ?_
  rintro e w' ⟨rfl, v, q1, q2, q3, q4⟩
  have HR := Hid.of (HP.out w' v q1 q2 q3 q4)
  clear q1 q2 q3 q4 HP HS
  dsimp only
  go_wp2
  go_end0
  exact ⟨rfl, _, HR.out⟩
set_option maxRecDepth 100000 in
set_option maxHeartbeats 4000000 in
theorem Sync_yes3 {B D T : Nat} {s : DD} (nm to : ByteArray) (p : Int) (ds : List UInt8) (w : World) (h : DOk w B D T s) (hu : s.unt ≤ 9223372036854775807) (hT : T + 3 ≤ 100000) (f : FL) (hfm : (nm.data.toList, f) ∈ s.nf) (hl : (lay f.lb f.lo).length ≤ 1099511627776) :
    Calls Tryz.prog 13 #[pv D, .string nm] w fun e w9 => e = .returned (.int .i64 (erE 5 nm to p ds.length s)) ∧ ∃ s', AftX w w9 B D T s s' ∧ Stp 5 nm to p ds s s' := by
  have HI := Hid.of h
  have HB1 := Hid.of (at_new w 24 [pv D])
  have HU := Hid.of ((Up.refl w).alloc (.cells [pv D].toArray 24))
  obtain ⟨er, her⟩ : ∃ er : Int, erE 5 nm to p ds.length s = er := ⟨_, rfl⟩
  have HFe := Hid.of (fun w3 (h3 : DOk w3 B D T s) => find_yes nm f w3 h3 hfm)
  have ho5 : ownE 5 nm to p ds.length s = 0 := (own5 nm to p ds.length s).trans (fnE_of h hfm)
  have HPo := Hid.of (show ∀ (b2 : Nat) w3, Up w w3 → At w3 w.heap.size 24 [pv D] → At w3 b2 88 [pv f.b] →
      Calls Tryz.prog 45 #[pv D, .int .i64 0, .func (.func 46) #[] #[pv w.heap.size, pv b2]] w3 fun e w9 => e = .returned (.int .i64 er) ∧ ∃ s', AftX w w9 B D T s s' ∧ Stp 5 nm to p ds s s' from fun bb w3 u3 b1 b2 => by
    rw [← her, ← ho5]
    refine actX_Sync 5 nm to p ds _ _ w w3 (HI.out.up u3) u3 hu hT (fun hd ho w4 h4 f4 g4 => ?_)
    have b1' := f4.at b1 (fun e => b1.ne (HI.out.up u3).disk (by decide) e)
    have b2' := f4.at b2 (fun e => b2.ne (HI.out.up u3).disk (by decide) e)
    refine (sync1_dd nm.data.toList f w.heap.size bb w4 h4 hfm b1' b2' hl (by omega)).mono ?_
    rintro e w9 ⟨rfl, v, q1, q2, q3⟩
    refine ⟨rfl, _, ⟨q1, ?_, ?_⟩, eff5 ⟨f, v, hfm, rfl⟩⟩
    · exact Nw.trans (s1 := acS s) (fun k hk => .inl hk) q2 (by have := u3.size; have := f4.size; omega)
    · exact (((Fr.refl (own D s) w).up u3).trans f4 (fun g hg => .inl (.inl hg))).trans q3 (fun g hg => .inl hg))
  rw [her]
  clear h her ho5 hfm hl
  go_enter Tryz.func13, Tryz.ntmps13
  go_wp2_with fail
  generalize w.alloc (.cells [pv D].toArray 24) = W2 at *
  refine (HFe.out W2 (HI.out.up HU.out)).mono ?_
  rintro e w2 ⟨rfl, u2⟩
  have HU2 := Hid.of (HU.out.trans u2)
  have HB1b := Hid.of (HB1.out.up u2)
  clear u2 HB1 HU HFe
  dsimp only
  have HB3 := Hid.of (at_new w2 88 [pv f.b])
  have HU23 := Hid.of ((Up.refl w2).alloc (.cells [pv f.b].toArray 88))
  have hw2 : (w2.alloc (.cells [pv f.b].toArray 88)) = (w2.alloc (.cells #[pv f.b] 88)) := rfl
  have c1 := (HB1b.out.up HU23.out).cell (i := 0) rfl
  have HB1c := Hid.of (HB1b.out.up HU23.out)
  rw [hw2] at c1 HU23 HB3 HB1c
  go_wp2_with fail
  generalize w2.alloc (.cells #[pv f.b] 88) = W3 at *
  refine (HPo.out _ W3 (HU2.out.trans HU23.out) HB1c.out HB3.out).mono ?_
  rintro e w9 ⟨rfl, hP⟩
  have HP := Hid.of hP
  clear hP HPo
  dsimp only
  go_wp2
  go_ret
  exact ⟨rfl, HP.out⟩
set_option maxRecDepth 100000 in
set_option maxHeartbeats 4000000 in
theorem Sync_no3 {B D T : Nat} {s : DD} (nm to : ByteArray) (p : Int) (ds : List UInt8) (w : World) (h : DOk w B D T s) (hu : s.unt ≤ 9223372036854775807) (hT : T + 3 ≤ 100000) (hfe : fnE s nm.data.toList ≠ 0) :
    Calls Tryz.prog 13 #[pv D, .string nm] w fun e w9 => e = .returned (.int .i64 (erE 5 nm to p ds.length s)) ∧ ∃ s', AftX w w9 B D T s s' ∧ Stp 5 nm to p ds s s' := by
  have HI := Hid.of h
  have HB1 := Hid.of (at_new w 24 [pv D])
  have HU := Hid.of ((Up.refl w).alloc (.cells [pv D].toArray 24))
  obtain ⟨er, her⟩ : ∃ er : Int, erE 5 nm to p ds.length s = er := ⟨_, rfl⟩
  obtain ⟨oe, hoe⟩ : ∃ oe : Int, fnE s nm.data.toList = oe := ⟨_, rfl⟩
  have HFe := Hid.of (fun w3 (h3 : DOk w3 B D T s) => (by rw [← hoe]; exact find_err nm w3 h3 hfe : Calls Tryz.prog 44 #[pv D, .string nm] w3 fun e w' => e = .returned (.tuple #[.pointer none, .int .i64 oe]) ∧ Up w3 w'))
  have ho5 : ownE 5 nm to p ds.length s = oe := (own5 nm to p ds.length s).trans hoe
  have HPo := Hid.of (show ∀ (b2 : Nat) w3, Up w w3 → At w3 w.heap.size 24 [pv D] → At w3 b2 88 [Value.pointer none] →
      Calls Tryz.prog 45 #[pv D, .int .i64 oe, .func (.func 46) #[] #[pv w.heap.size, pv b2]] w3 fun e w9 => e = .returned (.int .i64 er) ∧ ∃ s', AftX w w9 B D T s s' ∧ Stp 5 nm to p ds s s' from fun bb w3 u3 b1 b2 => by
    rw [← her, ← ho5]
    refine actX_Sync 5 nm to p ds _ _ w w3 (HI.out.up u3) u3 hu hT (fun hd ho w4 h4 f4 g4 => ?_)
    exact absurd (ho5.symm.trans ho) (fun e => hfe (hoe.trans e)))
  rw [her]
  clear h her ho5 hoe hfe
  go_enter Tryz.func13, Tryz.ntmps13
  go_wp2_with fail
  generalize w.alloc (.cells [pv D].toArray 24) = W2 at *
  refine (HFe.out W2 (HI.out.up HU.out)).mono ?_
  rintro e w2 ⟨rfl, u2⟩
  have HU2 := Hid.of (HU.out.trans u2)
  have HB1b := Hid.of (HB1.out.up u2)
  clear u2 HB1 HU HFe
  dsimp only
  have HB3 := Hid.of (at_new w2 88 [Value.pointer none])
  have HU23 := Hid.of ((Up.refl w2).alloc (.cells [Value.pointer none].toArray 88))
  have hw2 : (w2.alloc (.cells [Value.pointer none].toArray 88)) = (w2.alloc (.cells #[Value.pointer none] 88)) := rfl
  have c1 := (HB1b.out.up HU23.out).cell (i := 0) rfl
  have HB1c := Hid.of (HB1b.out.up HU23.out)
  rw [hw2] at c1 HU23 HB3 HB1c
  go_wp2_with fail
  generalize w2.alloc (.cells #[Value.pointer none] 88) = W3 at *
  refine (HPo.out _ W3 (HU2.out.trans HU23.out) HB1c.out HB3.out).mono ?_
  rintro e w9 ⟨rfl, hP⟩
  have HP := Hid.of hP
  clear hP HPo
  dsimp only
  go_wp2
  go_ret
  exact ⟨rfl, HP.out⟩
theorem Sync_all {B D T : Nat} {s : DD} (nm to : ByteArray) (p : Int) (ds : List UInt8) (w : World) (h : DOk w B D T s) (hu : s.unt ≤ 9223372036854775807) (hT : T + 3 ≤ 100000) (hly : ∀ f ∈ fls s, lay f.lb f.lo = f.nb) :
    Calls Tryz.prog 13 #[pv D, .string nm] w fun e w9 => e = .returned (.int .i64 (erE 5 nm to p ds.length s)) ∧ ∃ s', AftX w w9 B D T s s' ∧ Stp 5 nm to p ds s s' := by
  by_cases hf : fnE s nm.data.toList = 0
  · obtain ⟨f, hfm⟩ := fnE_get hf
    exact Sync_yes3 nm to p ds w h hu hT f hfm (by rw [hly f (mem_fls_nf hfm)]; exact (h.sz f (mem_fls_nf hfm)).1)
  · exact Sync_no3 nm to p ds w h hu hT hf
end Go.Proofs.YtaibjeehjhlicaaGreatDoor
