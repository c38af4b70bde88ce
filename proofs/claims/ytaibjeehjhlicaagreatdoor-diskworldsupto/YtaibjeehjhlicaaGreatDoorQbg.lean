import Derived.Test.YtaibjeehjhlicaaGreatDoorQaf
namespace Go.Proofs.YtaibjeehjhlicaaGreatDoor
open Go.RowKit Go.Shelf TextNum ModNum
theorem Frs.rfl (w : World) (v : Value) : Frs w v v := fun _ h => .inl h
theorem Frs.low {w w1 : World} {v v' : Value} (h : Frs w1 v v') (k : w.heap.size ≤ w1.heap.size) : Frs w v v' := fun g hg => (h g hg).imp id (fun h => Nat.le_trans k h)
theorem Fr.map {S : Nat → Prop} {w w' : World} {M n : Nat} {dm : DataW Unit} (h : Fr S w w') (k : OM w M n dm) (hS : ¬ S M) : OM w' M n dm := by
  have hl := World.ownsMap.lt k
  obtain ⟨es, cl, hb, r⟩ := k
  exact ⟨es, cl, (h.block M hl hS).trans hb, r⟩
set_option maxRecDepth 100000 in
set_option maxHeartbeats 2000000 in
theorem Create1_no (B D M n nc nl : Nat) (used : Int) (s : ByteArray) (dm : DataW Unit) (x0 x2 x4 vC vLo x7 x8 x9 x10 x11 : Value) (cs ls : List Value) (w : World) (b1 b2 : Nat) (hs : s.size ≤ 255) (hn : n < maxLen) (hA : At w D 85 [x0, .int .i64 used, x2, .map (some M), x4, vC, vLo, x7, x8, x9, x10, x11]) (hM : OM w M n dm) (hC : w.ownsRow B 106 1 vC nc cs) (hL : w.ownsRow B 88 1 vLo nl ls) (hB : B ≤ w.heap.size) (hnc : nc ≤ 1099511627776) (_hnl : nl ≤ 1099511627776) (hh : Maps.has dm (kS s) = false) (h1 : At w b1 24 [.pointer (some ⟨D, 0, none⟩)]) (h2 : At w b2 9 [.string s]) :
    Calls Tryz.prog 52 #[.pointer (some ⟨b1, 0, none⟩), .pointer (some ⟨b2, 0, none⟩)] w fun e w' => e = .returned (.tuple #[]) ∧ ∃ (F bp : Nat) (vC' vLo' : Value), At w' D 85 [x0, .int .i64 used, x2, .map (some M), x4, vC', vLo', x7, x8, x9, x10, x11] ∧ w'.ownsRow B 106 1 vC' (nc + 1) (cs ++ [.func (.func 55) #[] #[.pointer (some ⟨bp, 0, none⟩), .pointer (some ⟨b2, 0, none⟩)]]) ∧
      w'.ownsRow B 88 1 vLo' (nl) (ls) ∧ OM w' M (n + 1) (dm.put (kS s) (fd F)) ∧ At w' F 95 [.slice none 0 0, .slice none 0 0, .slice none 0 0] ∧ w.heap.size ≤ F ∧ At w' bp 88 [.pointer (some ⟨F, 0, none⟩)] ∧ w.heap.size ≤ bp ∧ Fr (fun k => k = D ∨ k = M ∨ vC.ownBlock = some k ∨ vLo.ownBlock = some k) w w' ∧ Frs w vC vC' ∧ Frs w vLo vLo' ∧ vLo'.ownBlock ≠ some bp := by
  have HR := Hid.of (release_no D M n s dm x0 (.int .i64 used) x2 x4 vC vLo x7 x8 x9 x10 x11 w hs hA hM hh)
  have HA := Hid.of hA
  have HM := Hid.of hM
  have HC := Hid.of hC
  have HL := Hid.of hL
  have HB1 := Hid.of h1
  have HB2 := Hid.of h2
  have c1 := h1.cell (i := 0) rfl
  have c2 := h2.cell (i := 0) rfl
  have HS := Hid.of hs
  clear hA hM h1 h2 hC hL hs hh 
  go_enter Tryz.func52, Tryz.ntmps52
  go_wp2_with fail
  refine HR.out.mono ?_
  rintro e w1 ⟨rfl, rfl⟩
  have HM1 := Hid.of HM.out
  have HC1 := Hid.of HC.out
  have HB1b := Hid.of HB1.out
  have HB2b := Hid.of HB2.out
  have HA1 := Hid.of HA.out
  have HL1 := Hid.of HL.out
  have HFr1 := Hid.of (Fr.refl (fun k => k = D ∨ vLo.ownBlock = some k) w1)
  have HSL := Hid.of (Frs.rfl w1 vLo)
  have hF1 := (at_new w1 95 [.slice none 0 0, .slice none 0 0, .slice none 0 0]).up ((Up.refl _).alloc (.cells [.pointer (some ⟨w1.heap.size, 0, none⟩)].toArray 88))
  have hP := at_new (w1.alloc (.cells [.slice none 0 0, .slice none 0 0, .slice none 0 0].toArray 95)) 88 [.pointer (some ⟨w1.heap.size, 0, none⟩)]
  rw [alloc_size] at hP
  have HF1 := Hid.of hF1
  have HP1 := Hid.of hP
  have HU := Hid.of (((Up.refl w1).alloc (.cells [.slice none 0 0, .slice none 0 0, .slice none 0 0].toArray 95)).alloc (.cells [.pointer (some ⟨w1.heap.size, 0, none⟩)].toArray 88))
  have hc1 := HU.out.cell (HB1b.out.cell (i := 0) rfl)
  have hc2 := HB1b.out.cell (i := 0) rfl
  clear hF1 hP HR
  dsimp only
  go_wp2_with fail
  generalize (w1.alloc (.cells [.slice none 0 0, .slice none 0 0, .slice none 0 0].toArray 95)).alloc (.cells [.pointer (some ⟨w1.heap.size, 0, none⟩)].toArray 88) = W2 at *
  have hA2 := HA1.out.up HU.out
  have hM2 : OM W2 M n dm := HM1.out.up HU.out
  have hC2 := ow_up HC1.out HU.out
  have hL2 := ow_up HL1.out HU.out
  refine (change_Create11 B D M (n + 1) n nc (dm.put (kS s) (fd w1.heap.size)) dm _ _ _ _ vC _ _ _ _ _ _ _ _ cs W2 hA2 hM2 hC2 (Nat.le_trans (Nat.le_trans hB HFr1.out.size) HU.out.size) hnc (Create11_gen M w1.heap.size (w1.heap.size + 1) b2 n s dm W2 HS.out hn hM2 HP1.out (HB2b.out.up HU.out))).mono ?_
  rintro e w3 ⟨rfl, vC3, a3, c3, m3, f3, s3⟩
  have qL := f3.own hL2 (fun g hg hk => by
    rcases hk with hk | hk | hk
    · exact own_ne hL2 hA2 (by decide) (hk ▸ hg)
    · exact map_ownB hM2 hL2 (hk ▸ hg)
    · exact own_apart hL2 hC2 (by decide) hg hk)
  have qF := f3.at HF1.out (fun hk => by
    rcases hk with hk | hk | hk
    · exact HF1.out.ne hA2 (by decide) hk
    · exact map_neB hM2 HF1.out hk.symm
    · exact own_ne hC2 HF1.out (by decide) hk)
  have qP := f3.at HP1.out (fun hk => by
    rcases hk with hk | hk | hk
    · exact HP1.out.ne hA2 (by decide) hk
    · exact map_neB hM2 HP1.out hk.symm
    · exact own_ne hC2 HP1.out (by decide) hk)
  have qR := ((HFr1.out.weak (T := fun k => k = D ∨ k = M ∨ vC.ownBlock = some k ∨ vLo.ownBlock = some k) (fun g hg => by
    rcases hg with hg | hg
    · exact .inl hg
    · exact .inr (.inr (.inr hg)))).up HU.out).trans f3 (fun g hg => .inl (by
      rcases hg with hg | hg | hg
      · exact .inl hg
      · exact .inr (.inl hg)
      · exact .inr (.inr (.inl hg))))
  have HQ := Hid.of (And.intro a3 (And.intro c3 (And.intro qL (And.intro m3 (And.intro qF (And.intro HFr1.out.size (And.intro qP (And.intro (Nat.le_succ_of_le HFr1.out.size) (And.intro qR (And.intro (Frs.low s3 (Nat.le_trans HFr1.out.size HU.out.size)) (And.intro HSL.out (show vLo.ownBlock ≠ some (w1.heap.size + 1) from fun e => by have := (World.ownsRow.lt HL1.out _ e).2; omega))))))))))))
  clear qL qF qR qP s3
  clear a3 c3 m3 f3 hA2 hM2 hC2 hL2 hc1 hc2 c1 c2
  dsimp only
  go_wp2
  go_end0
  exact ⟨rfl, w1.heap.size, w1.heap.size + 1, vC3, vLo, HQ.out⟩
set_option maxRecDepth 100000 in
set_option maxHeartbeats 2000000 in
theorem Create1_yes (B D M n nc nl : Nat) (used : Int) (s : ByteArray) (dm : DataW Unit) (x0 x2 x4 vC vLo x7 x8 x9 x10 x11 : Value) (cs ls : List Value) (w : World) (b1 b2 : Nat) (hs : s.size ≤ 255) (hn : n < maxLen) (hA : At w D 85 [x0, .int .i64 used, x2, .map (some M), x4, vC, vLo, x7, x8, x9, x10, x11]) (hM : OM w M n dm) (hC : w.ownsRow B 106 1 vC nc cs) (hL : w.ownsRow B 88 1 vLo nl ls) (hB : B ≤ w.heap.size) (hnc : nc ≤ 1099511627776) (hnl : nl ≤ 1099511627776) (b ln : Nat) (an : Option Addr) (cn : Nat) (y1 y2 : Value) (hh : Maps.has dm (kS s) = true) (hb : ∀ z, dm.atKey (kS s) z = fd b) (hF : At w b 95 [.slice an ln cn, y1, y2]) (hu0 : 0 ≤ used) (hu1 : used ≤ 4611686018427387904) (hl : ln ≤ 1099511627776) (h1 : At w b1 24 [.pointer (some ⟨D, 0, none⟩)]) (h2 : At w b2 9 [.string s]) :
    Calls Tryz.prog 52 #[.pointer (some ⟨b1, 0, none⟩), .pointer (some ⟨b2, 0, none⟩)] w fun e w' => e = .returned (.tuple #[]) ∧ ∃ (F bp : Nat) (vC' vLo' : Value), At w' D 85 [x0, .int .i64 (used - ln), x2, .map (some M), x4, vC', vLo', x7, x8, x9, x10, x11] ∧ w'.ownsRow B 106 1 vC' (nc + 1) (cs ++ [.func (.func 55) #[] #[.pointer (some ⟨bp, 0, none⟩), .pointer (some ⟨b2, 0, none⟩)]]) ∧
      w'.ownsRow B 88 1 vLo' (nl + 1) (ls ++ [.pointer (some ⟨b, 0, none⟩)]) ∧ OM w' M (n + 1) (dm.put (kS s) (fd F)) ∧ At w' F 95 [.slice none 0 0, .slice none 0 0, .slice none 0 0] ∧ w.heap.size ≤ F ∧ At w' bp 88 [.pointer (some ⟨F, 0, none⟩)] ∧ w.heap.size ≤ bp ∧ Fr (fun k => k = D ∨ k = M ∨ vC.ownBlock = some k ∨ vLo.ownBlock = some k) w w' ∧ Frs w vC vC' ∧ Frs w vLo vLo' ∧ vLo'.ownBlock ≠ some bp := by
  have HR := Hid.of (release_yes B D M n b ln nl used s dm an cn x0 x2 x4 vC vLo x7 x8 x9 x10 x11 y1 y2 ls w hs hA hM hh hb hF hL hB hnl hu0 hu1 hl)
  have HA := Hid.of hA
  have HM := Hid.of hM
  have HC := Hid.of hC
  have HL := Hid.of hL
  have HB1 := Hid.of h1
  have HB2 := Hid.of h2
  have c1 := h1.cell (i := 0) rfl
  have c2 := h2.cell (i := 0) rfl
  have HS := Hid.of hs
  clear hA hM h1 h2 hC hL hs hh hb hF
  go_enter Tryz.func52, Tryz.ntmps52
  go_wp2_with fail
  refine HR.out.mono ?_
  rintro e w1 ⟨rfl, vLo1, a1, l1, f1, s1⟩
  have HM1 := Hid.of (show OM w1 M n dm from f1.map HM.out (fun hk => by
    rcases hk with hk | hk
    · exact map_neB HM.out HA.out hk
    · exact map_ownB HM.out HL.out hk))
  have HC1 := Hid.of (f1.own HC.out (fun g hg hk => by
    rcases hk with hk | hk
    · exact own_ne HC.out HA.out (by decide) (hk ▸ hg)
    · exact own_apart HC.out HL.out (by decide) hg hk))
  have HB1b := Hid.of (f1.at HB1.out (fun hk => by
    rcases hk with hk | hk
    · exact HB1.out.ne HA.out (by decide) hk
    · exact own_ne HL.out HB1.out (by decide) hk))
  have HB2b := Hid.of (f1.at HB2.out (fun hk => by
    rcases hk with hk | hk
    · exact HB2.out.ne HA.out (by decide) hk
    · exact own_ne HL.out HB2.out (by decide) hk))
  have HA1 := Hid.of a1
  have HL1 := Hid.of l1
  have HFr1 := Hid.of f1
  have HSL := Hid.of s1
  clear a1 l1 f1 s1
  have hF1 := (at_new w1 95 [.slice none 0 0, .slice none 0 0, .slice none 0 0]).up ((Up.refl _).alloc (.cells [.pointer (some ⟨w1.heap.size, 0, none⟩)].toArray 88))
  have hP := at_new (w1.alloc (.cells [.slice none 0 0, .slice none 0 0, .slice none 0 0].toArray 95)) 88 [.pointer (some ⟨w1.heap.size, 0, none⟩)]
  rw [alloc_size] at hP
  have HF1 := Hid.of hF1
  have HP1 := Hid.of hP
  have HU := Hid.of (((Up.refl w1).alloc (.cells [.slice none 0 0, .slice none 0 0, .slice none 0 0].toArray 95)).alloc (.cells [.pointer (some ⟨w1.heap.size, 0, none⟩)].toArray 88))
  have hc1 := HU.out.cell (HB1b.out.cell (i := 0) rfl)
  have hc2 := HB1b.out.cell (i := 0) rfl
  clear hF1 hP HR
  dsimp only
  go_wp2_with fail
  generalize (w1.alloc (.cells [.slice none 0 0, .slice none 0 0, .slice none 0 0].toArray 95)).alloc (.cells [.pointer (some ⟨w1.heap.size, 0, none⟩)].toArray 88) = W2 at *
  have hA2 := HA1.out.up HU.out
  have hM2 : OM W2 M n dm := HM1.out.up HU.out
  have hC2 := ow_up HC1.out HU.out
  have hL2 := ow_up HL1.out HU.out
  refine (change_Create11 B D M (n + 1) n nc (dm.put (kS s) (fd w1.heap.size)) dm _ _ _ _ vC _ _ _ _ _ _ _ _ cs W2 hA2 hM2 hC2 (Nat.le_trans (Nat.le_trans hB HFr1.out.size) HU.out.size) hnc (Create11_gen M w1.heap.size (w1.heap.size + 1) b2 n s dm W2 HS.out hn hM2 HP1.out (HB2b.out.up HU.out))).mono ?_
  rintro e w3 ⟨rfl, vC3, a3, c3, m3, f3, s3⟩
  have qL := f3.own hL2 (fun g hg hk => by
    rcases hk with hk | hk | hk
    · exact own_ne hL2 hA2 (by decide) (hk ▸ hg)
    · exact map_ownB hM2 hL2 (hk ▸ hg)
    · exact own_apart hL2 hC2 (by decide) hg hk)
  have qF := f3.at HF1.out (fun hk => by
    rcases hk with hk | hk | hk
    · exact HF1.out.ne hA2 (by decide) hk
    · exact map_neB hM2 HF1.out hk.symm
    · exact own_ne hC2 HF1.out (by decide) hk)
  have qP := f3.at HP1.out (fun hk => by
    rcases hk with hk | hk | hk
    · exact HP1.out.ne hA2 (by decide) hk
    · exact map_neB hM2 HP1.out hk.symm
    · exact own_ne hC2 HP1.out (by decide) hk)
  have qR := ((HFr1.out.weak (T := fun k => k = D ∨ k = M ∨ vC.ownBlock = some k ∨ vLo.ownBlock = some k) (fun g hg => by
    rcases hg with hg | hg
    · exact .inl hg
    · exact .inr (.inr (.inr hg)))).up HU.out).trans f3 (fun g hg => .inl (by
      rcases hg with hg | hg | hg
      · exact .inl hg
      · exact .inr (.inl hg)
      · exact .inr (.inr (.inl hg))))
  have HQ := Hid.of (And.intro a3 (And.intro c3 (And.intro qL (And.intro m3 (And.intro qF (And.intro HFr1.out.size (And.intro qP (And.intro (Nat.le_succ_of_le HFr1.out.size) (And.intro qR (And.intro (Frs.low s3 (Nat.le_trans HFr1.out.size HU.out.size)) (And.intro HSL.out (show vLo1.ownBlock ≠ some (w1.heap.size + 1) from fun e => by have := (World.ownsRow.lt HL1.out _ e).2; omega))))))))))))
  clear qL qF qR qP s3
  clear a3 c3 m3 f3 hA2 hM2 hC2 hL2 hc1 hc2 c1 c2
  dsimp only
  go_wp2
  go_end0
  exact ⟨rfl, w1.heap.size, w1.heap.size + 1, vC3, vLo1, HQ.out⟩
set_option maxRecDepth 100000 in
set_option maxHeartbeats 2000000 in
theorem Remove1_yes (B D M n nc nl : Nat) (used : Int) (s : ByteArray) (dm : DataW Unit) (x0 x2 x4 vC vLo x7 x8 x9 x10 x11 : Value) (cs ls : List Value) (w : World) (b1 b2 : Nat) (hs : s.size ≤ 255) (hA : At w D 85 [x0, .int .i64 used, x2, .map (some M), x4, vC, vLo, x7, x8, x9, x10, x11]) (hM : OM w M n dm) (hC : w.ownsRow B 106 1 vC nc cs) (hL : w.ownsRow B 88 1 vLo nl ls) (hB : B ≤ w.heap.size) (hnc : nc ≤ 1099511627776) (hnl : nl ≤ 1099511627776) (b ln : Nat) (an : Option Addr) (cn : Nat) (y1 y2 : Value) (hh : Maps.has dm (kS s) = true) (hb : ∀ z, dm.atKey (kS s) z = fd b) (hF : At w b 95 [.slice an ln cn, y1, y2]) (hu0 : 0 ≤ used) (hu1 : used ≤ 4611686018427387904) (hl : ln ≤ 1099511627776) (h1 : At w b1 24 [.pointer (some ⟨D, 0, none⟩)]) (h2 : At w b2 9 [.string s]) :
    Calls Tryz.prog 99 #[.pointer (some ⟨b1, 0, none⟩), .pointer (some ⟨b2, 0, none⟩)] w fun e w' => e = .returned (.tuple #[]) ∧ ∃ (vC' vLo' : Value), At w' D 85 [x0, .int .i64 (used - ln), x2, .map (some M), x4, vC', vLo', x7, x8, x9, x10, x11] ∧ w'.ownsRow B 106 1 vC' (nc + 1) (cs ++ [.func (.func 100) #[] #[.pointer (some ⟨b2, 0, none⟩)]]) ∧
      w'.ownsRow B 88 1 vLo' (nl + 1) (ls ++ [.pointer (some ⟨b, 0, none⟩)]) ∧ OM w' M n (dm.del (kS s)) ∧ Fr (fun k => k = D ∨ k = M ∨ vC.ownBlock = some k ∨ vLo.ownBlock = some k) w w' ∧ Frs w vC vC' ∧ Frs w vLo vLo' := by
  have HR := Hid.of (release_yes B D M n b ln nl used s dm an cn x0 x2 x4 vC vLo x7 x8 x9 x10 x11 y1 y2 ls w hs hA hM hh hb hF hL hB hnl hu0 hu1 hl)
  have HA := Hid.of hA
  have HM := Hid.of hM
  have HC := Hid.of hC
  have HL := Hid.of hL
  have HB1 := Hid.of h1
  have HB2 := Hid.of h2
  have c1 := h1.cell (i := 0) rfl
  have c2 := h2.cell (i := 0) rfl
  have HS := Hid.of hs
  clear hA hM h1 h2 hC hL hs hh hb hF
  go_enter Tryz.func99, Tryz.ntmps99
  go_wp2_with fail
  refine HR.out.mono ?_
  rintro e w1 ⟨rfl, vLo1, a1, l1, f1, s1⟩
  have HM1 := Hid.of (show OM w1 M n dm from f1.map HM.out (fun hk => by
    rcases hk with hk | hk
    · exact map_neB HM.out HA.out hk
    · exact map_ownB HM.out HL.out hk))
  have HC1 := Hid.of (f1.own HC.out (fun g hg hk => by
    rcases hk with hk | hk
    · exact own_ne HC.out HA.out (by decide) (hk ▸ hg)
    · exact own_apart HC.out HL.out (by decide) hg hk))
  have HB1b := Hid.of (f1.at HB1.out (fun hk => by
    rcases hk with hk | hk
    · exact HB1.out.ne HA.out (by decide) hk
    · exact own_ne HL.out HB1.out (by decide) hk))
  have HB2b := Hid.of (f1.at HB2.out (fun hk => by
    rcases hk with hk | hk
    · exact HB2.out.ne HA.out (by decide) hk
    · exact own_ne HL.out HB2.out (by decide) hk))
  have HA1 := Hid.of a1
  have HL1 := Hid.of l1
  have HFr1 := Hid.of f1
  have HSL := Hid.of s1
  have hc1 := HB1b.out.cell (i := 0) rfl
  clear a1 l1 f1 s1 HR c1 c2
  dsimp only
  go_wp2_with fail
  refine (change_Remove11 B D M n n nc (dm.del (kS s)) dm _ _ _ _ vC _ _ _ _ _ _ _ cs w1 HA1.out HM1.out HC1.out (Nat.le_trans hB HFr1.out.size) hnc (Remove11_gen M b2 n s dm w1 HS.out HM1.out HB2b.out)).mono ?_
  rintro e w3 ⟨rfl, vC3, a3, c3, m3, f3, s3⟩
  have qL := f3.own HL1.out (fun g hg hk => by
    rcases hk with hk | hk | hk
    · exact own_ne HL1.out HA1.out (by decide) (hk ▸ hg)
    · exact map_ownB HM1.out HL1.out (hk ▸ hg)
    · exact own_apart HL1.out HC1.out (by decide) hg hk)
  have qR := (HFr1.out.weak (T := fun k => k = D ∨ k = M ∨ vC.ownBlock = some k ∨ vLo.ownBlock = some k) (fun g hg => by
    rcases hg with hg | hg
    · exact .inl hg
    · exact .inr (.inr (.inr hg)))).trans f3 (fun g hg => .inl (by
      rcases hg with hg | hg | hg
      · exact .inl hg
      · exact .inr (.inl hg)
      · exact .inr (.inr (.inl hg))))
  have HQ := Hid.of (And.intro a3 (And.intro c3 (And.intro qL (And.intro m3 (And.intro qR (And.intro (Frs.low s3 HFr1.out.size) HSL.out))))))
  clear a3 c3 m3 f3 s3 qL qR hc1
  dsimp only
  go_wp2
  go_end0
  exact ⟨rfl, vC3, vLo1, HQ.out⟩
set_option maxRecDepth 100000 in
set_option maxHeartbeats 2000000 in
theorem Rename1_same (B D M n nc nl : Nat) (used : Int) (s : ByteArray) (dm : DataW Unit) (x0 x2 x4 vC vLo x7 x8 x9 x10 x11 : Value) (cs ls : List Value) (w : World) (b0 b1 b2 bf : Nat) (hs : s.size ≤ 255) (hn : n < maxLen) (hA : At w D 85 [x0, .int .i64 used, x2, .map (some M), x4, vC, vLo, x7, x8, x9, x10, x11]) (hM : OM w M n dm) (hC : w.ownsRow B 106 1 vC nc cs) (hL : w.ownsRow B 88 1 vLo nl ls) (hB : B ≤ w.heap.size) (hnc : nc ≤ 1099511627776) (_hnl : nl ≤ 1099511627776) (hbf : ∀ z, dm.atKey (kS s) z = fd bf) (h0 : At w b0 9 [.string s]) (h1 : At w b1 9 [.string s]) (h2 : At w b2 24 [.pointer (some ⟨D, 0, none⟩)]) :
    Calls Tryz.prog 59 #[.pointer (some ⟨b0, 0, none⟩), .pointer (some ⟨b1, 0, none⟩), .pointer (some ⟨b2, 0, none⟩)] w fun e w' => e = .returned (.tuple #[]) ∧ ∃ (vC' vLo' : Value), At w' D 85 [x0, .int .i64 used, x2, .map (some M), x4, vC', vLo', x7, x8, x9, x10, x11] ∧ w'.ownsRow B 106 1 vC' (nc + 1) (cs ++ [.func (.func 60) #[] #[.pointer (some ⟨b0, 0, none⟩), .pointer (some ⟨b1, 0, none⟩)]]) ∧
      w'.ownsRow B 88 1 vLo' (nl) (ls) ∧ OM w' M (n + 1) ((dm.del (kS s)).put (kS s) (fd bf)) ∧ Fr (fun k => k = D ∨ k = M ∨ vC.ownBlock = some k ∨ vLo.ownBlock = some k) w w' ∧ Frs w vC vC' ∧ Frs w vLo vLo' := by
  have HA := Hid.of hA
  have HM := Hid.of hM
  have HC := Hid.of hC
  have HL := Hid.of hL
  have HB0 := Hid.of h0
  have HB1 := Hid.of h1
  have HB2 := Hid.of h2
  have c0 := h0.cell (i := 0) rfl
  have c1 := h1.cell (i := 0) rfl
  have c2 := h2.cell (i := 0) rfl
  have HS := Hid.of hs
  have HT := Hid.of hs
  have HBf := Hid.of hbf
  clear hA hM h0 h1 h2 hC hL hs hbf   
  go_enter Tryz.func59, Tryz.ntmps59
  obtain ⟨w1, hw1⟩ : ∃ w1, w1 = w := ⟨_, rfl⟩
  subst hw1
  have HM1 := Hid.of HM.out
  have HC1 := Hid.of HC.out
  have HB0b := Hid.of HB0.out
  have HB1b := Hid.of HB1.out
  have HB2b := Hid.of HB2.out
  have HA1 := Hid.of HA.out
  have HL1 := Hid.of HL.out
  have HFr1 := Hid.of (Fr.refl (fun k => k = D ∨ vLo.ownBlock = some k) w1)
  have HSL := Hid.of (Frs.rfl w1 vLo)
  have hc2 := HB2b.out.cell (i := 0) rfl
  skip
  skip
  go_wp2_with fail
  refine (change_Rename11 B D M (n + 1) n nc ((dm.del (kS s)).put (kS s) (fd bf)) dm _ _ _ _ vC _ _ _ _ _ _ _ _ cs w1 HA1.out HM1.out HC1.out (Nat.le_trans hB HFr1.out.size) hnc (Rename11_gen M bf b0 b1 n s s dm w1 HS.out HT.out hn HM1.out HBf.out HB0b.out HB1b.out)).mono ?_
  rintro e w3 ⟨rfl, vC3, a3, c3, m3, f3, s3⟩
  have qL := f3.own HL1.out (fun g hg hk => by
    rcases hk with hk | hk | hk
    · exact own_ne HL1.out HA1.out (by decide) (hk ▸ hg)
    · exact map_ownB HM1.out HL1.out (hk ▸ hg)
    · exact own_apart HL1.out HC1.out (by decide) hg hk)
  have qR := (HFr1.out.weak (T := fun k => k = D ∨ k = M ∨ vC.ownBlock = some k ∨ vLo.ownBlock = some k) (fun g hg => by
    rcases hg with hg | hg
    · exact .inl hg
    · exact .inr (.inr (.inr hg)))).trans f3 (fun g hg => .inl (by
      rcases hg with hg | hg | hg
      · exact .inl hg
      · exact .inr (.inl hg)
      · exact .inr (.inr (.inl hg))))
  have HQ := Hid.of (And.intro a3 (And.intro c3 (And.intro qL (And.intro m3 (And.intro qR (And.intro (Frs.low s3 HFr1.out.size) HSL.out))))))
  clear a3 c3 m3 f3 s3 qL qR hc2
  dsimp only
  go_wp2
  go_end0
  exact ⟨rfl, vC3, vLo, HQ.out⟩
set_option maxRecDepth 100000 in
set_option maxHeartbeats 2000000 in
theorem Rename1_no (B D M n nc nl : Nat) (used : Int) (s : ByteArray) (dm : DataW Unit) (x0 x2 x4 vC vLo x7 x8 x9 x10 x11 : Value) (cs ls : List Value) (w : World) (b0 b1 b2 bf : Nat) (t : ByteArray) (htl : t.size ≤ 255) (hst : (s.toList == t.toList) = false) (hs : s.size ≤ 255) (hn : n < maxLen) (hA : At w D 85 [x0, .int .i64 used, x2, .map (some M), x4, vC, vLo, x7, x8, x9, x10, x11]) (hM : OM w M n dm) (hC : w.ownsRow B 106 1 vC nc cs) (hL : w.ownsRow B 88 1 vLo nl ls) (hB : B ≤ w.heap.size) (hnc : nc ≤ 1099511627776) (_hnl : nl ≤ 1099511627776) (hh : Maps.has dm (kS t) = false) (hbf : ∀ z, dm.atKey (kS s) z = fd bf) (h0 : At w b0 9 [.string s]) (h1 : At w b1 9 [.string t]) (h2 : At w b2 24 [.pointer (some ⟨D, 0, none⟩)]) :
    Calls Tryz.prog 59 #[.pointer (some ⟨b0, 0, none⟩), .pointer (some ⟨b1, 0, none⟩), .pointer (some ⟨b2, 0, none⟩)] w fun e w' => e = .returned (.tuple #[]) ∧ ∃ (vC' vLo' : Value), At w' D 85 [x0, .int .i64 used, x2, .map (some M), x4, vC', vLo', x7, x8, x9, x10, x11] ∧ w'.ownsRow B 106 1 vC' (nc + 1) (cs ++ [.func (.func 60) #[] #[.pointer (some ⟨b0, 0, none⟩), .pointer (some ⟨b1, 0, none⟩)]]) ∧
      w'.ownsRow B 88 1 vLo' (nl) (ls) ∧ OM w' M (n + 1) ((dm.del (kS s)).put (kS t) (fd bf)) ∧ Fr (fun k => k = D ∨ k = M ∨ vC.ownBlock = some k ∨ vLo.ownBlock = some k) w w' ∧ Frs w vC vC' ∧ Frs w vLo vLo' := by
  have HR := Hid.of (release_no D M n t dm x0 (.int .i64 used) x2 x4 vC vLo x7 x8 x9 x10 x11 w htl hA hM hh)
  have HA := Hid.of hA
  have HM := Hid.of hM
  have HC := Hid.of hC
  have HL := Hid.of hL
  have HB0 := Hid.of h0
  have HB1 := Hid.of h1
  have HB2 := Hid.of h2
  have c0 := h0.cell (i := 0) rfl
  have c1 := h1.cell (i := 0) rfl
  have c2 := h2.cell (i := 0) rfl
  have HS := Hid.of hs
  have HT := Hid.of htl
  have HBf := Hid.of hbf
  clear hA hM h0 h1 h2 hC hL hs hbf htl hh 
  go_enter Tryz.func59, Tryz.ntmps59
  go_wp2_with fail
  refine HR.out.mono ?_
  rintro e w1 ⟨rfl, rfl⟩
  have HM1 := Hid.of HM.out
  have HC1 := Hid.of HC.out
  have HB0b := Hid.of HB0.out
  have HB1b := Hid.of HB1.out
  have HB2b := Hid.of HB2.out
  have HA1 := Hid.of HA.out
  have HL1 := Hid.of HL.out
  have HFr1 := Hid.of (Fr.refl (fun k => k = D ∨ vLo.ownBlock = some k) w1)
  have HSL := Hid.of (Frs.rfl w1 vLo)
  have hc2 := HB2b.out.cell (i := 0) rfl
  clear HR
  dsimp only
  go_wp2_with fail
  refine (change_Rename11 B D M (n + 1) n nc ((dm.del (kS s)).put (kS t) (fd bf)) dm _ _ _ _ vC _ _ _ _ _ _ _ _ cs w1 HA1.out HM1.out HC1.out (Nat.le_trans hB HFr1.out.size) hnc (Rename11_gen M bf b0 b1 n s t dm w1 HS.out HT.out hn HM1.out HBf.out HB0b.out HB1b.out)).mono ?_
  rintro e w3 ⟨rfl, vC3, a3, c3, m3, f3, s3⟩
  have qL := f3.own HL1.out (fun g hg hk => by
    rcases hk with hk | hk | hk
    · exact own_ne HL1.out HA1.out (by decide) (hk ▸ hg)
    · exact map_ownB HM1.out HL1.out (hk ▸ hg)
    · exact own_apart HL1.out HC1.out (by decide) hg hk)
  have qR := (HFr1.out.weak (T := fun k => k = D ∨ k = M ∨ vC.ownBlock = some k ∨ vLo.ownBlock = some k) (fun g hg => by
    rcases hg with hg | hg
    · exact .inl hg
    · exact .inr (.inr (.inr hg)))).trans f3 (fun g hg => .inl (by
      rcases hg with hg | hg | hg
      · exact .inl hg
      · exact .inr (.inl hg)
      · exact .inr (.inr (.inl hg))))
  have HQ := Hid.of (And.intro a3 (And.intro c3 (And.intro qL (And.intro m3 (And.intro qR (And.intro (Frs.low s3 HFr1.out.size) HSL.out))))))
  clear a3 c3 m3 f3 s3 qL qR hc2
  dsimp only
  go_wp2
  go_end0
  exact ⟨rfl, vC3, vLo, HQ.out⟩
set_option maxRecDepth 100000 in
set_option maxHeartbeats 2000000 in
theorem Rename1_yes (B D M n nc nl : Nat) (used : Int) (s : ByteArray) (dm : DataW Unit) (x0 x2 x4 vC vLo x7 x8 x9 x10 x11 : Value) (cs ls : List Value) (w : World) (b0 b1 b2 bf : Nat) (t : ByteArray) (htl : t.size ≤ 255) (hst : (s.toList == t.toList) = false) (hs : s.size ≤ 255) (hn : n < maxLen) (hA : At w D 85 [x0, .int .i64 used, x2, .map (some M), x4, vC, vLo, x7, x8, x9, x10, x11]) (hM : OM w M n dm) (hC : w.ownsRow B 106 1 vC nc cs) (hL : w.ownsRow B 88 1 vLo nl ls) (hB : B ≤ w.heap.size) (hnc : nc ≤ 1099511627776) (hnl : nl ≤ 1099511627776) (b ln : Nat) (an : Option Addr) (cn : Nat) (y1 y2 : Value) (hh : Maps.has dm (kS t) = true) (hb : ∀ z, dm.atKey (kS t) z = fd b) (hF : At w b 95 [.slice an ln cn, y1, y2]) (hu0 : 0 ≤ used) (hu1 : used ≤ 4611686018427387904) (hl : ln ≤ 1099511627776) (hbf : ∀ z, dm.atKey (kS s) z = fd bf) (h0 : At w b0 9 [.string s]) (h1 : At w b1 9 [.string t]) (h2 : At w b2 24 [.pointer (some ⟨D, 0, none⟩)]) :
    Calls Tryz.prog 59 #[.pointer (some ⟨b0, 0, none⟩), .pointer (some ⟨b1, 0, none⟩), .pointer (some ⟨b2, 0, none⟩)] w fun e w' => e = .returned (.tuple #[]) ∧ ∃ (vC' vLo' : Value), At w' D 85 [x0, .int .i64 (used - ln), x2, .map (some M), x4, vC', vLo', x7, x8, x9, x10, x11] ∧ w'.ownsRow B 106 1 vC' (nc + 1) (cs ++ [.func (.func 60) #[] #[.pointer (some ⟨b0, 0, none⟩), .pointer (some ⟨b1, 0, none⟩)]]) ∧
      w'.ownsRow B 88 1 vLo' (nl + 1) (ls ++ [.pointer (some ⟨b, 0, none⟩)]) ∧ OM w' M (n + 1) ((dm.del (kS s)).put (kS t) (fd bf)) ∧ Fr (fun k => k = D ∨ k = M ∨ vC.ownBlock = some k ∨ vLo.ownBlock = some k) w w' ∧ Frs w vC vC' ∧ Frs w vLo vLo' := by
  have HR := Hid.of (release_yes B D M n b ln nl used t dm an cn x0 x2 x4 vC vLo x7 x8 x9 x10 x11 y1 y2 ls w htl hA hM hh hb hF hL hB hnl hu0 hu1 hl)
  have HA := Hid.of hA
  have HM := Hid.of hM
  have HC := Hid.of hC
  have HL := Hid.of hL
  have HB0 := Hid.of h0
  have HB1 := Hid.of h1
  have HB2 := Hid.of h2
  have c0 := h0.cell (i := 0) rfl
  have c1 := h1.cell (i := 0) rfl
  have c2 := h2.cell (i := 0) rfl
  have HS := Hid.of hs
  have HT := Hid.of htl
  have HBf := Hid.of hbf
  clear hA hM h0 h1 h2 hC hL hs hbf htl  hh hb hF
  go_enter Tryz.func59, Tryz.ntmps59
  go_wp2_with fail
  refine HR.out.mono ?_
  rintro e w1 ⟨rfl, vLo1, a1, l1, f1, s1⟩
  have HM1 := Hid.of (show OM w1 M n dm from f1.map HM.out (fun hk => by
    rcases hk with hk | hk
    · exact map_neB HM.out HA.out hk
    · exact map_ownB HM.out HL.out hk))
  have HC1 := Hid.of (f1.own HC.out (fun g hg hk => by
    rcases hk with hk | hk
    · exact own_ne HC.out HA.out (by decide) (hk ▸ hg)
    · exact own_apart HC.out HL.out (by decide) hg hk))
  have HB0b := Hid.of (f1.at HB0.out (fun hk => by
    rcases hk with hk | hk
    · exact HB0.out.ne HA.out (by decide) hk
    · exact own_ne HL.out HB0.out (by decide) hk))
  have HB1b := Hid.of (f1.at HB1.out (fun hk => by
    rcases hk with hk | hk
    · exact HB1.out.ne HA.out (by decide) hk
    · exact own_ne HL.out HB1.out (by decide) hk))
  have HB2b := Hid.of (f1.at HB2.out (fun hk => by
    rcases hk with hk | hk
    · exact HB2.out.ne HA.out (by decide) hk
    · exact own_ne HL.out HB2.out (by decide) hk))
  have HA1 := Hid.of a1
  have HL1 := Hid.of l1
  have HFr1 := Hid.of f1
  have HSL := Hid.of s1
  clear a1 l1 f1 s1
  have hc2 := HB2b.out.cell (i := 0) rfl
  clear HR
  dsimp only
  go_wp2_with fail
  refine (change_Rename11 B D M (n + 1) n nc ((dm.del (kS s)).put (kS t) (fd bf)) dm _ _ _ _ vC _ _ _ _ _ _ _ _ cs w1 HA1.out HM1.out HC1.out (Nat.le_trans hB HFr1.out.size) hnc (Rename11_gen M bf b0 b1 n s t dm w1 HS.out HT.out hn HM1.out HBf.out HB0b.out HB1b.out)).mono ?_
  rintro e w3 ⟨rfl, vC3, a3, c3, m3, f3, s3⟩
  have qL := f3.own HL1.out (fun g hg hk => by
    rcases hk with hk | hk | hk
    · exact own_ne HL1.out HA1.out (by decide) (hk ▸ hg)
    · exact map_ownB HM1.out HL1.out (hk ▸ hg)
    · exact own_apart HL1.out HC1.out (by decide) hg hk)
  have qR := (HFr1.out.weak (T := fun k => k = D ∨ k = M ∨ vC.ownBlock = some k ∨ vLo.ownBlock = some k) (fun g hg => by
    rcases hg with hg | hg
    · exact .inl hg
    · exact .inr (.inr (.inr hg)))).trans f3 (fun g hg => .inl (by
      rcases hg with hg | hg | hg
      · exact .inl hg
      · exact .inr (.inl hg)
      · exact .inr (.inr (.inl hg))))
  have HQ := Hid.of (And.intro a3 (And.intro c3 (And.intro qL (And.intro m3 (And.intro qR (And.intro (Frs.low s3 HFr1.out.size) HSL.out))))))
  clear a3 c3 m3 f3 s3 qL qR hc2
  dsimp only
  go_wp2
  go_end0
  exact ⟨rfl, vC3, vLo1, HQ.out⟩
end Go.Proofs.YtaibjeehjhlicaaGreatDoor
