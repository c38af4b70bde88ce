import Derived.Test.YtaibjeehjhlicaaGreatDoorQae
namespace Go.Proofs.YtaibjeehjhlicaaGreatDoor
open Go.RowKit Go.Shelf TextNum ModNum
theorem Tryz.infoNact2 : (Tryz.prog.info? 106).map (fun i => (i.zero, i.size, i.bytes)) = some (some (.agg #[.nilFunc]), 1, 8) := by kernel_rfl
theorem map_neB {w : World} {M n b : Nat} {D : DataW Unit} {t : TypeId} {cs : List Value} (h : OM w M n D) (k : At w b t cs) : M ≠ b := fun e => by
  subst e
  obtain ⟨es, cl, hb, _⟩ := h
  unfold At at k
  rw [hb] at k
  injection k with k
  cases k
theorem map_ownB {w : World} {M n B m q : Nat} {D : DataW Unit} {e : TypeId} {v : Value} {xs : List Value} (h : OM w M n D) (k : w.ownsRow B e m v q xs) : v.ownBlock ≠ some M := fun hb => by
  obtain ⟨es, cl, hm, _⟩ := h
  rcases k.2 with ⟨rfl, _⟩ | ⟨g, cap, cur, rfl, _, hg, _⟩
  · cases hb
  · obtain rfl : g = M := Option.some.inj hb
    rw [hm] at hg
    injection hg with hg
    cases hg
set_option maxRecDepth 100000 in
set_option maxHeartbeats 1000000 in
theorem Rename11_gen (M b b1 b2 n : Nat) (s t : ByteArray) (dm : DataW Unit) (w : World) (hs : s.size ≤ 255) (ht : t.size ≤ 255) (hn : n < maxLen) (hM : OM w M n dm) (hb : ∀ z, dm.atKey (kS s) z = fd b) (h1 : At w b1 9 [.string s]) (h2 : At w b2 9 [.string t]) :
    Calls Tryz.prog 60 #[.map (some M), .pointer (some ⟨b1, 0, none⟩), .pointer (some ⟨b2, 0, none⟩)] w fun e w' => e = .returned (.tuple #[]) ∧ OM w' M (n + 1) ((dm.del (kS s)).put (kS t) (fd b)) ∧ w.grownBy w' (some M) := by
  have c1 := h1.cell (i := 0) rfl
  have c2 := h2.cell (i := 0) rfl
  obtain ⟨v, ps, hrun, hv⟩ := World.ownsMap.lookup hM (Maps.string_keyed Tryz.underlying9) Tryz.underlying81 (Tryz.zeroValue88 w) (zd := .lit (.bool false)) (zp := []) rfl (keyS s hs)
  rw [hb] at hv
  obtain rfl := rp_inv hv
  have HM := Hid.of hM
  have HK := Hid.of (keyS s hs)
  have HT := Hid.of (keyS t ht)
  have HB1 := Hid.of h1
  have HB2 := Hid.of h2
  clear hM h1 h2 hs ht hv
  go_enter Tryz.func60, Tryz.ntmps60
  go_wp2_with (with_reducible show wpList _ _ _ ({ dst := _, op := Op.call { callee := Callee.builtin Builtin.delete, args := _, argTypes := _ }, type := _, pos := _, after := _, guard := _ } :: _) _ _; refine Shut.out ?_)
  show wpList _ _ _ _ _ _
  refine wpList_delete_own _ rfl _ _ 81 9 rfl 88 (Maps.string_keyed Tryz.underlying9) Tryz.underlying81 rp M n dm rfl HM.out _ (kS s) rfl HK.out ?_
  intro w1 o1 g1
  have HO := Hid.of o1
  have HG := Hid.of g1.grown
  have c2b := (HB2.out.by HG.out (fun e => map_neB HM.out HB2.out (Option.some.inj e))).cell (i := 0) rfl
  clear o1 g1 c1 c2 hrun
  simp only [Act.put]
  go_wp2_with (with_reducible show wpList _ _ _ ({ dst := _, op := Op.mapUpdate 81 _ _ _, type := _, pos := _, after := _, guard := _ } :: _) _ _; refine Shut.out ?_)
  show wpList _ _ _ _ _ _
  refine wpList_mapUpdate_own _ rfl _ _ _ 81 rfl 9 88 (Maps.string_keyed Tryz.underlying9) Tryz.underlying81 rp M n _ rfl HO.out hn _ _ (kS t) rfl rfl HT.out (fd b) [] rfl ?_
  intro w2 o2 g2
  have HO2 := Hid.of o2
  have HG2 := Hid.of (grown_trans HG.out g2)
  clear o2 g2
  simp only [Act.put]
  go_wp2
  go_end0
  exact ⟨rfl, HO2.out, HG2.out⟩
set_option maxRecDepth 100000 in
set_option maxHeartbeats 2000000 in
theorem change_Create11 (B D M n n0 nc : Nat) (dm dm0 : DataW Unit) (x0 x1 x2 x4 vC x6 x7 x8 x9 x10 x11 c0 c1 : Value) (cs : List Value) (w : World) (hA : At w D 85 [x0, x1, x2, .map (some M), x4, vC, x6, x7, x8, x9, x10, x11]) (hM : OM w M n0 dm0) (hC : w.ownsRow B 106 1 vC nc cs) (hB : B ≤ w.heap.size) (hn : nc ≤ 1099511627776)
    (H : Calls Tryz.prog 55 #[.map (some M), c0, c1] w fun e w' => e = .returned (.tuple #[]) ∧ OM w' M n dm ∧ w.grownBy w' (some M)) :
    Calls Tryz.prog 54 #[.pointer (some ⟨D, 0, none⟩), (.func (.func 55) #[] #[c0, c1])] w fun e w' => e = .returned (.tuple #[]) ∧ ∃ vC', At w' D 85 [x0, x1, x2, .map (some M), x4, vC', x6, x7, x8, x9, x10, x11] ∧ w'.ownsRow B 106 1 vC' (nc + 1) (cs ++ [(.func (.func 55) #[] #[c0, c1])]) ∧ OM w' M n dm ∧ Fr (fun k => k = D ∨ k = M ∨ vC.ownBlock = some k) w w' ∧ Frs w vC vC' := by
  obtain ⟨i0, hi, hz0, hz1, hz2⟩ := info_parts Tryz.infoNact2
  have HC := Hid.of H
  have HA := Hid.of hA
  have HCs := Hid.of hC
  have HM0 := Hid.of hM
  have c3 := hA.cell (i := 3) rfl
  obtain ⟨aC, cC, hvC⟩ : ∃ aC cC, vC = .slice aC nc cC := by
    rcases hC.2 with ⟨h, h0⟩ | ⟨g, cap, cur, h, _⟩
    · exact ⟨none, 0, by rw [h, h0]⟩
    · exact ⟨_, cap, h⟩
  subst hvC
  clear hA hC H hM
  go_enter Tryz.func54, Tryz.ntmps54
  go_wp2_with fail
  refine HC.out.mono ?_
  rintro e w1 ⟨rfl, m1, g1⟩
  have HM1 := Hid.of m1
  have HFr1 := Hid.of ((Fr.refl (fun k => k = D ∨ k = M ∨ (Value.slice aC nc cC).ownBlock = some k) w).by g1 (fun g hg => .inl (.inr (.inl (Option.some.inj hg).symm))))
  have HA1 := Hid.of (HA.out.by g1 (fun e => map_neB HM0.out HA.out (Option.some.inj e)))
  have HC1 := Hid.of (World.ownsRow.kept HCs.out g1 (.inr (map_ownB HM0.out HCs.out)))
  have c5 := HA1.out.cell (i := 5) rfl
  have HU1 := Hid.of ((Up.refl w1).alloc (.cells [(.func (.func 55) #[] #[c0, c1])].toArray 106))
  have HBw := Hid.of (Nat.le_trans hB g1.size)
  clear m1 g1 HC HA HCs c3
  dsimp only
  go_wp2_with (with_reducible show wpList _ _ _ ({ dst := _, op := Op.call { callee := Callee.builtin Builtin.append, args := _, argTypes := _ }, type := _, pos := _, after := _, guard := _ } :: _) _ _; refine Shut.out ?_)
  show wpList _ _ _ _ _ _
  refine wpList_append_frs rfl _ _ 82 rfl B 106 i0 (.agg #[.nilFunc]) 8 Tryz.underlying82 hi hz0 hz1 hz2 rfl (.slice aC nc cC) nc cs rfl (ow_up HC1.out HU1.out) ⟨w1.heap.size, 0, none⟩ 1 1 [(.func (.func 55) #[] #[c0, c1])] rfl rfl ?_ ?_ (by simp only [maxLen]; omega) (by omega) (by have := HBw.out; simp; omega) ?_
  · intro j u hu
    rw [Addr.add_lit]
    exact At.cell (at_new w1 106 [(.func (.func 55) #[] #[c0, c1])]) (i := 0 + j) (by rw [Nat.zero_add]; exact hu)
  · intro u hu
    obtain rfl := List.mem_singleton.1 hu
    rfl
  intro v2 w2 o2 g2 f2
  obtain ⟨a2, n2, c2, hv2⟩ : ∃ a n c, v2 = .slice a n c := by
    rcases o2.2 with ⟨h, _⟩ | ⟨g, cap, cur, h, _⟩
    · exact ⟨_, _, _, h⟩
    · exact ⟨_, _, _, h⟩
  subst hv2
  have HA1u := HA1.out.up HU1.out
  have HC1u := ow_up HC1.out HU1.out
  have HM1u : OM _ M n dm := HM1.out.up HU1.out
  have HFr2 := Hid.of ((HFr1.out.up HU1.out).by g2 (fun g hg => .inl (.inr (.inr hg))))
  have HA2 := Hid.of (HA1u.by g2 (own_ne HC1u HA1u (by decide)))
  have HM2 := Hid.of (show OM w2 M n dm from World.ownsMap.kept HM1u g2 (fun e => map_ownB HM1u HC1u e.symm))
  have HO2 := Hid.of o2
  have e5 := HA2.out.cell (i := 5) rfl
  have t5 := HA2.out.thaw 5
  have HA3 := Hid.of (HA2.out.set 5 (.slice a2 n2 c2))
  have HG3 := Hid.of (grown_at w2 D 5 (.slice a2 n2 c2))
  have HFs := Hid.of (show Frs w (.slice aC nc cC) (.slice a2 n2 c2) from fun g hg => (f2 g hg).imp id (fun h => by have := HFr1.out.size; have := HU1.out.size; omega))
  clear o2 g2 f2 c5 HFr1 HA1 HM1 HA1u HC1u HM1u
  simp only [Act.put, List.setIfInBounds_toArray, List.set_cons_zero, List.set_cons_succ]
  go_wp2
  go_end0
  exact ⟨rfl, _, HA3.out, World.ownsRow.kept HO2.out HG3.out (.inr (own_ne HO2.out HA2.out (by decide))), World.ownsMap.kept HM2.out HG3.out (fun e => map_neB HM2.out HA2.out (Option.some.inj e)), HFr2.out.by HG3.out (fun g hg => .inl (.inl (Option.some.inj hg).symm)), HFs.out⟩
set_option maxRecDepth 100000 in
set_option maxHeartbeats 2000000 in
theorem change_Remove11 (B D M n n0 nc : Nat) (dm dm0 : DataW Unit) (x0 x1 x2 x4 vC x6 x7 x8 x9 x10 x11 c0 : Value) (cs : List Value) (w : World) (hA : At w D 85 [x0, x1, x2, .map (some M), x4, vC, x6, x7, x8, x9, x10, x11]) (hM : OM w M n0 dm0) (hC : w.ownsRow B 106 1 vC nc cs) (hB : B ≤ w.heap.size) (hn : nc ≤ 1099511627776)
    (H : Calls Tryz.prog 100 #[.map (some M), c0] w fun e w' => e = .returned (.tuple #[]) ∧ OM w' M n dm ∧ w.grownBy w' (some M)) :
    Calls Tryz.prog 54 #[.pointer (some ⟨D, 0, none⟩), (.func (.func 100) #[] #[c0])] w fun e w' => e = .returned (.tuple #[]) ∧ ∃ vC', At w' D 85 [x0, x1, x2, .map (some M), x4, vC', x6, x7, x8, x9, x10, x11] ∧ w'.ownsRow B 106 1 vC' (nc + 1) (cs ++ [(.func (.func 100) #[] #[c0])]) ∧ OM w' M n dm ∧ Fr (fun k => k = D ∨ k = M ∨ vC.ownBlock = some k) w w' ∧ Frs w vC vC' := by
  obtain ⟨i0, hi, hz0, hz1, hz2⟩ := info_parts Tryz.infoNact2
  have HC := Hid.of H
  have HA := Hid.of hA
  have HCs := Hid.of hC
  have HM0 := Hid.of hM
  have c3 := hA.cell (i := 3) rfl
  obtain ⟨aC, cC, hvC⟩ : ∃ aC cC, vC = .slice aC nc cC := by
    rcases hC.2 with ⟨h, h0⟩ | ⟨g, cap, cur, h, _⟩
    · exact ⟨none, 0, by rw [h, h0]⟩
    · exact ⟨_, cap, h⟩
  subst hvC
  clear hA hC H hM
  go_enter Tryz.func54, Tryz.ntmps54
  go_wp2_with fail
  refine HC.out.mono ?_
  rintro e w1 ⟨rfl, m1, g1⟩
  have HM1 := Hid.of m1
  have HFr1 := Hid.of ((Fr.refl (fun k => k = D ∨ k = M ∨ (Value.slice aC nc cC).ownBlock = some k) w).by g1 (fun g hg => .inl (.inr (.inl (Option.some.inj hg).symm))))
  have HA1 := Hid.of (HA.out.by g1 (fun e => map_neB HM0.out HA.out (Option.some.inj e)))
  have HC1 := Hid.of (World.ownsRow.kept HCs.out g1 (.inr (map_ownB HM0.out HCs.out)))
  have c5 := HA1.out.cell (i := 5) rfl
  have HU1 := Hid.of ((Up.refl w1).alloc (.cells [(.func (.func 100) #[] #[c0])].toArray 106))
  have HBw := Hid.of (Nat.le_trans hB g1.size)
  clear m1 g1 HC HA HCs c3
  dsimp only
  go_wp2_with (with_reducible show wpList _ _ _ ({ dst := _, op := Op.call { callee := Callee.builtin Builtin.append, args := _, argTypes := _ }, type := _, pos := _, after := _, guard := _ } :: _) _ _; refine Shut.out ?_)
  show wpList _ _ _ _ _ _
  refine wpList_append_frs rfl _ _ 82 rfl B 106 i0 (.agg #[.nilFunc]) 8 Tryz.underlying82 hi hz0 hz1 hz2 rfl (.slice aC nc cC) nc cs rfl (ow_up HC1.out HU1.out) ⟨w1.heap.size, 0, none⟩ 1 1 [(.func (.func 100) #[] #[c0])] rfl rfl ?_ ?_ (by simp only [maxLen]; omega) (by omega) (by have := HBw.out; simp; omega) ?_
  · intro j u hu
    rw [Addr.add_lit]
    exact At.cell (at_new w1 106 [(.func (.func 100) #[] #[c0])]) (i := 0 + j) (by rw [Nat.zero_add]; exact hu)
  · intro u hu
    obtain rfl := List.mem_singleton.1 hu
    rfl
  intro v2 w2 o2 g2 f2
  obtain ⟨a2, n2, c2, hv2⟩ : ∃ a n c, v2 = .slice a n c := by
    rcases o2.2 with ⟨h, _⟩ | ⟨g, cap, cur, h, _⟩
    · exact ⟨_, _, _, h⟩
    · exact ⟨_, _, _, h⟩
  subst hv2
  have HA1u := HA1.out.up HU1.out
  have HC1u := ow_up HC1.out HU1.out
  have HM1u : OM _ M n dm := HM1.out.up HU1.out
  have HFr2 := Hid.of ((HFr1.out.up HU1.out).by g2 (fun g hg => .inl (.inr (.inr hg))))
  have HA2 := Hid.of (HA1u.by g2 (own_ne HC1u HA1u (by decide)))
  have HM2 := Hid.of (show OM w2 M n dm from World.ownsMap.kept HM1u g2 (fun e => map_ownB HM1u HC1u e.symm))
  have HO2 := Hid.of o2
  have e5 := HA2.out.cell (i := 5) rfl
  have t5 := HA2.out.thaw 5
  have HA3 := Hid.of (HA2.out.set 5 (.slice a2 n2 c2))
  have HG3 := Hid.of (grown_at w2 D 5 (.slice a2 n2 c2))
  have HFs := Hid.of (show Frs w (.slice aC nc cC) (.slice a2 n2 c2) from fun g hg => (f2 g hg).imp id (fun h => by have := HFr1.out.size; have := HU1.out.size; omega))
  clear o2 g2 f2 c5 HFr1 HA1 HM1 HA1u HC1u HM1u
  simp only [Act.put, List.setIfInBounds_toArray, List.set_cons_zero, List.set_cons_succ]
  go_wp2
  go_end0
  exact ⟨rfl, _, HA3.out, World.ownsRow.kept HO2.out HG3.out (.inr (own_ne HO2.out HA2.out (by decide))), World.ownsMap.kept HM2.out HG3.out (fun e => map_neB HM2.out HA2.out (Option.some.inj e)), HFr2.out.by HG3.out (fun g hg => .inl (.inl (Option.some.inj hg).symm)), HFs.out⟩
set_option maxRecDepth 100000 in
set_option maxHeartbeats 2000000 in
theorem change_Rename11 (B D M n n0 nc : Nat) (dm dm0 : DataW Unit) (x0 x1 x2 x4 vC x6 x7 x8 x9 x10 x11 c0 c1 : Value) (cs : List Value) (w : World) (hA : At w D 85 [x0, x1, x2, .map (some M), x4, vC, x6, x7, x8, x9, x10, x11]) (hM : OM w M n0 dm0) (hC : w.ownsRow B 106 1 vC nc cs) (hB : B ≤ w.heap.size) (hn : nc ≤ 1099511627776)
    (H : Calls Tryz.prog 60 #[.map (some M), c0, c1] w fun e w' => e = .returned (.tuple #[]) ∧ OM w' M n dm ∧ w.grownBy w' (some M)) :
    Calls Tryz.prog 54 #[.pointer (some ⟨D, 0, none⟩), (.func (.func 60) #[] #[c0, c1])] w fun e w' => e = .returned (.tuple #[]) ∧ ∃ vC', At w' D 85 [x0, x1, x2, .map (some M), x4, vC', x6, x7, x8, x9, x10, x11] ∧ w'.ownsRow B 106 1 vC' (nc + 1) (cs ++ [(.func (.func 60) #[] #[c0, c1])]) ∧ OM w' M n dm ∧ Fr (fun k => k = D ∨ k = M ∨ vC.ownBlock = some k) w w' ∧ Frs w vC vC' := by
  obtain ⟨i0, hi, hz0, hz1, hz2⟩ := info_parts Tryz.infoNact2
  have HC := Hid.of H
  have HA := Hid.of hA
  have HCs := Hid.of hC
  have HM0 := Hid.of hM
  have c3 := hA.cell (i := 3) rfl
  obtain ⟨aC, cC, hvC⟩ : ∃ aC cC, vC = .slice aC nc cC := by
    rcases hC.2 with ⟨h, h0⟩ | ⟨g, cap, cur, h, _⟩
    · exact ⟨none, 0, by rw [h, h0]⟩
    · exact ⟨_, cap, h⟩
  subst hvC
  clear hA hC H hM
  go_enter Tryz.func54, Tryz.ntmps54
  go_wp2_with fail
  refine HC.out.mono ?_
  rintro e w1 ⟨rfl, m1, g1⟩
  have HM1 := Hid.of m1
  have HFr1 := Hid.of ((Fr.refl (fun k => k = D ∨ k = M ∨ (Value.slice aC nc cC).ownBlock = some k) w).by g1 (fun g hg => .inl (.inr (.inl (Option.some.inj hg).symm))))
  have HA1 := Hid.of (HA.out.by g1 (fun e => map_neB HM0.out HA.out (Option.some.inj e)))
  have HC1 := Hid.of (World.ownsRow.kept HCs.out g1 (.inr (map_ownB HM0.out HCs.out)))
  have c5 := HA1.out.cell (i := 5) rfl
  have HU1 := Hid.of ((Up.refl w1).alloc (.cells [(.func (.func 60) #[] #[c0, c1])].toArray 106))
  have HBw := Hid.of (Nat.le_trans hB g1.size)
  clear m1 g1 HC HA HCs c3
  dsimp only
  go_wp2_with (with_reducible show wpList _ _ _ ({ dst := _, op := Op.call { callee := Callee.builtin Builtin.append, args := _, argTypes := _ }, type := _, pos := _, after := _, guard := _ } :: _) _ _; refine Shut.out ?_)
  show wpList _ _ _ _ _ _
  refine wpList_append_frs rfl _ _ 82 rfl B 106 i0 (.agg #[.nilFunc]) 8 Tryz.underlying82 hi hz0 hz1 hz2 rfl (.slice aC nc cC) nc cs rfl (ow_up HC1.out HU1.out) ⟨w1.heap.size, 0, none⟩ 1 1 [(.func (.func 60) #[] #[c0, c1])] rfl rfl ?_ ?_ (by simp only [maxLen]; omega) (by omega) (by have := HBw.out; simp; omega) ?_
  · intro j u hu
    rw [Addr.add_lit]
    exact At.cell (at_new w1 106 [(.func (.func 60) #[] #[c0, c1])]) (i := 0 + j) (by rw [Nat.zero_add]; exact hu)
  · intro u hu
    obtain rfl := List.mem_singleton.1 hu
    rfl
  intro v2 w2 o2 g2 f2
  obtain ⟨a2, n2, c2, hv2⟩ : ∃ a n c, v2 = .slice a n c := by
    rcases o2.2 with ⟨h, _⟩ | ⟨g, cap, cur, h, _⟩
    · exact ⟨_, _, _, h⟩
    · exact ⟨_, _, _, h⟩
  subst hv2
  have HA1u := HA1.out.up HU1.out
  have HC1u := ow_up HC1.out HU1.out
  have HM1u : OM _ M n dm := HM1.out.up HU1.out
  have HFr2 := Hid.of ((HFr1.out.up HU1.out).by g2 (fun g hg => .inl (.inr (.inr hg))))
  have HA2 := Hid.of (HA1u.by g2 (own_ne HC1u HA1u (by decide)))
  have HM2 := Hid.of (show OM w2 M n dm from World.ownsMap.kept HM1u g2 (fun e => map_ownB HM1u HC1u e.symm))
  have HO2 := Hid.of o2
  have e5 := HA2.out.cell (i := 5) rfl
  have t5 := HA2.out.thaw 5
  have HA3 := Hid.of (HA2.out.set 5 (.slice a2 n2 c2))
  have HG3 := Hid.of (grown_at w2 D 5 (.slice a2 n2 c2))
  have HFs := Hid.of (show Frs w (.slice aC nc cC) (.slice a2 n2 c2) from fun g hg => (f2 g hg).imp id (fun h => by have := HFr1.out.size; have := HU1.out.size; omega))
  clear o2 g2 f2 c5 HFr1 HA1 HM1 HA1u HC1u HM1u
  simp only [Act.put, List.setIfInBounds_toArray, List.set_cons_zero, List.set_cons_succ]
  go_wp2
  go_end0
  exact ⟨rfl, _, HA3.out, World.ownsRow.kept HO2.out HG3.out (.inr (own_ne HO2.out HA2.out (by decide))), World.ownsMap.kept HM2.out HG3.out (fun e => map_neB HM2.out HA2.out (Option.some.inj e)), HFr2.out.by HG3.out (fun g hg => .inl (.inl (Option.some.inj hg).symm)), HFs.out⟩
end Go.Proofs.YtaibjeehjhlicaaGreatDoor
namespace Go.Proofs.YtaibjeehjhlicaaGreatDoor
open Go.RowKit Go.Shelf TextNum ModNum
theorem Tryz.infoPf : (Tryz.prog.info? 88).map (fun i => (i.zero, i.size, i.bytes)) = some (some (.pointer none), 1, 8) := by kernel_rfl
set_option maxRecDepth 100000 in
set_option maxHeartbeats 1000000 in
theorem release_no (D M n : Nat) (s : ByteArray) (dm : DataW Unit) (x0 x1 x2 x4 x5 x6 x7 x8 x9 x10 x11 : Value) (w : World) (hs : s.size ≤ 255) (hA : At w D 85 [x0, x1, x2, .map (some M), x4, x5, x6, x7, x8, x9, x10, x11]) (hM : OM w M n dm) (hh : Maps.has dm (kS s) = false) :
    Calls Tryz.prog 53 #[.pointer (some ⟨D, 0, none⟩), .string s] w fun e w' => e = .returned (.tuple #[]) ∧ w' = w := by
  have c3 := hA.cell (i := 3) rfl
  have HM := Hid.of hM
  have HK := Hid.of (keyS s hs)
  have HZ := Hid.of (has_not (.lit (.bool false)) hh)
  have HH := Hid.of hh
  clear hA hM hh hs
  go_enter Tryz.func53, Tryz.ntmps53
  go_wp2_with (with_reducible show wpList _ _ _ ({ dst := _, op := Op.lookup 81 _ _ _, type := _, pos := _, after := _, guard := _ } :: _) _ _; refine Shut.out ?_)
  show wpList _ _ _ _ _ _
  refine wpList_lookup_own_ok _ rfl _ _ 81 rfl 9 88 (Maps.string_keyed Tryz.underlying9) Tryz.underlying81 rp (Tryz.zeroValue88 _) (.lit (.bool false)) [] rfl M n dm rfl HM.out _ (kS s) rfl HK.out ?_
  intro v ps hv
  rw [HZ.out] at hv
  obtain rfl := rp_inv0' hv
  rw [HH.out]
  clear hv
  simp only [Act.put, List.setIfInBounds_toArray, List.set_cons_zero, List.set_cons_succ]
  go_wp2
  go_end0
  exact ⟨rfl, rfl⟩
set_option maxRecDepth 100000 in
set_option maxHeartbeats 2000000 in
theorem release_yes (B D M n b ln nl : Nat) (used : Int) (s : ByteArray) (dm : DataW Unit) (an : Option Addr) (cn : Nat) (x0 x2 x4 x5 vLo x7 x8 x9 x10 x11 y1 y2 : Value) (cs : List Value) (w : World) (hs : s.size ≤ 255) (hA : At w D 85 [x0, .int .i64 used, x2, .map (some M), x4, x5, vLo, x7, x8, x9, x10, x11]) (hM : OM w M n dm)
    (hh : Maps.has dm (kS s) = true) (hb : ∀ z, dm.atKey (kS s) z = fd b) (hF : At w b 95 [.slice an ln cn, y1, y2]) (hL : w.ownsRow B 88 1 vLo nl cs) (hB : B ≤ w.heap.size) (hn : nl ≤ 1099511627776) (hu0 : 0 ≤ used) (hu1 : used ≤ 4611686018427387904) (hl : ln ≤ 1099511627776) :
    Calls Tryz.prog 53 #[.pointer (some ⟨D, 0, none⟩), .string s] w fun e w' => e = .returned (.tuple #[]) ∧ ∃ vLo', At w' D 85 [x0, .int .i64 (used - ln), x2, .map (some M), x4, x5, vLo', x7, x8, x9, x10, x11] ∧ w'.ownsRow B 88 1 vLo' (nl + 1) (cs ++ [.pointer (some ⟨b, 0, none⟩)]) ∧ Fr (fun k => k = D ∨ vLo.ownBlock = some k) w w' ∧ Frs w vLo vLo' := by
  obtain ⟨i0, hi, hz0, hz1, hz2⟩ := info_parts Tryz.infoPf
  have c3 := hA.cell (i := 3) rfl
  have c1 := hA.cell (i := 1) rfl
  have t1 := hA.thaw 1
  have cf := hF.cell (i := 0) rfl
  obtain ⟨aL, cL, hvL⟩ : ∃ aL cL, vLo = .slice aL nl cL := by
    rcases hL.2 with ⟨h, h0⟩ | ⟨g, cap, cur, h, _⟩
    · exact ⟨none, 0, by rw [h, h0]⟩
    · exact ⟨_, cap, h⟩
  subst hvL
  have HA := Hid.of hA
  have HL := Hid.of hL
  have HM := Hid.of hM
  have HK := Hid.of (keyS s hs)
  have HZ := Hid.of (hb (.lit (.bool false)))
  have HH := Hid.of hh
  have hw1 : IntKind.i64.wrap (used - (ln : Int)) = used - (ln : Int) := by rw [IntKind.wrap_i64]; omega
  clear hA hM hh hs hb hF hL
  go_enter Tryz.func53, Tryz.ntmps53
  go_wp2_with (with_reducible show wpList _ _ _ ({ dst := _, op := Op.lookup 81 _ _ _, type := _, pos := _, after := _, guard := _ } :: _) _ _; refine Shut.out ?_)
  show wpList _ _ _ _ _ _
  refine wpList_lookup_own_ok _ rfl _ _ 81 rfl 9 88 (Maps.string_keyed Tryz.underlying9) Tryz.underlying81 rp (Tryz.zeroValue88 _) (.lit (.bool false)) [] rfl M n dm rfl HM.out _ (kS s) rfl HK.out ?_
  intro v ps hv
  rw [HZ.out] at hv
  obtain rfl := rp_inv hv
  rw [HH.out]
  clear hv
  simp only [Act.put, List.setIfInBounds_toArray, List.set_cons_zero, List.set_cons_succ]
  go_wp2
  apply wp_once
  case h =>
    go_region
    all_goals exact ⟨rfl, rfl⟩
  have HG1 := Hid.of (grown_up (grown_at w D 1 (.int .i64 (used - (ln : Int)))) (Up.refl _).drew)
  have HA1 := Hid.of ((HA.out.set 1 (.int .i64 (used - (ln : Int)))).up (Up.refl _).drew)
  generalize (w.setCell ⟨D, 1, none⟩ (.int .i64 (used - (ln : Int)))).drew = w1 at *
  have HL1 := Hid.of (World.ownsRow.kept HL.out HG1.out (.inr (own_ne HL.out HA.out (by decide))))
  have HFr1 := Hid.of ((Fr.refl (fun k => k = D ∨ (Value.slice aL nl cL).ownBlock = some k) w).by HG1.out (fun g hg => .inl (.inl (Option.some.inj hg).symm)))
  have c6 := HA1.out.cell (i := 6) rfl
  have HU1 := Hid.of ((Up.refl w1).alloc (.cells [.pointer (some ⟨b, 0, none⟩)].toArray 88))
  have HBw := Hid.of (Nat.le_trans hB HG1.out.size)
  clear c1 c3 t1 cf HA HL HG1 HM hw1
  go_wp2_with (with_reducible show wpList _ _ _ ({ dst := _, op := Op.call { callee := Callee.builtin Builtin.append, args := _, argTypes := _ }, type := _, pos := _, after := _, guard := _ } :: _) _ _; refine Shut.out ?_)
  show wpList _ _ _ _ _ _
  refine wpList_append_frs rfl _ _ 83 rfl B 88 i0 (.pointer none) 8 Tryz.underlying83 hi hz0 hz1 hz2 rfl (.slice aL nl cL) nl cs rfl (ow_up HL1.out HU1.out) ⟨w1.heap.size, 0, none⟩ 1 1 [.pointer (some ⟨b, 0, none⟩)] rfl rfl ?_ ?_ (by simp only [maxLen]; omega) (by omega) (by have := HBw.out; simp; omega) ?_
  · intro j u hu
    rw [Addr.add_lit]
    exact At.cell (at_new w1 88 [.pointer (some ⟨b, 0, none⟩)]) (i := 0 + j) (by rw [Nat.zero_add]; exact hu)
  · intro u hu
    obtain rfl := List.mem_singleton.1 hu
    rfl
  intro v2 w2 o2 g2 f2
  obtain ⟨a2, n2, c2, hv2⟩ : ∃ a n c, v2 = .slice a n c := by
    rcases o2.2 with ⟨h, _⟩ | ⟨g, cap, cur, h, _⟩
    · exact ⟨_, _, _, h⟩
    · exact ⟨_, _, _, h⟩
  subst hv2
  have HA1u := HA1.out.up HU1.out
  have HL1u := ow_up HL1.out HU1.out
  have HFr2 := Hid.of ((HFr1.out.up HU1.out).by g2 (fun g hg => .inl (.inr hg)))
  have HA2 := Hid.of (HA1u.by g2 (own_ne HL1u HA1u (by decide)))
  have HO2 := Hid.of o2
  have e6 := HA2.out.cell (i := 6) rfl
  have t6 := HA2.out.thaw 6
  have HA3 := Hid.of (HA2.out.set 6 (.slice a2 n2 c2))
  have HG3 := Hid.of (grown_at w2 D 6 (.slice a2 n2 c2))
  have HFs := Hid.of (show Frs w (.slice aL nl cL) (.slice a2 n2 c2) from fun g hg => (f2 g hg).imp id (fun h => by have := HFr1.out.size; have := HU1.out.size; omega))
  clear o2 g2 f2 c6 HFr1 HA1 HL1 HA1u HL1u
  simp only [Act.put, List.setIfInBounds_toArray, List.set_cons_zero, List.set_cons_succ]
  go_wp2
  go_end0
  exact ⟨rfl, _, HA3.out, World.ownsRow.kept HO2.out HG3.out (.inr (own_ne HO2.out HA2.out (by decide))), HFr2.out.by HG3.out (fun g hg => .inl (.inl (Option.some.inj hg).symm)), HFs.out⟩
end Go.Proofs.YtaibjeehjhlicaaGreatDoor
