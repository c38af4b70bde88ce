import Derived.Test.YtepakbghhnkcfaaDoorDv
namespace Go.Proofs.YtepakbghhnkcfaaDoor
open Go.RowKit Go.Shelf TextNum ModNum
theorem Tryd.infoNact2 : (Tryd.prog.info? 95).map (fun i => (i.zero, i.size, i.bytes)) = some (some (.agg #[.nilFunc]), 1, 8) := by kernel_rfl
theorem map_neB {w : World} {M n b : Nat} {D : DataW Unit} {t : TypeId} {cs : List Value} (h : OM w M n D) (k : At w b t cs) : M ≠ b := fun e => by
  subst e
  obtain ⟨es, cl, hb, _⟩ := h
  unfold At at k
  rw [hb] at k
  injection k with k
  cases k
theorem map_ownB {w : World} {M n B m q : Nat} {D : DataW Unit} {e : TypeId} {v : Value} {xs : List Value} (h : OM w M n D) (k : w.ownsRow B e m v q xs) : v.ownBlock ≠ some M := fun hb => by
  obtain ⟨es, cl, hm, _⟩ := h
  rcases k.2 with ⟨rfl, _⟩ | ⟨g, cap, cur, rfl, _, hg, _⟩
  · cases hb
  · obtain rfl : g = M := Option.some.inj hb
    rw [hm] at hg
    injection hg with hg
    cases hg
set_option maxRecDepth 100000 in
set_option maxHeartbeats 1000000 in
theorem Rename11_gen (M b b1 b2 n : Nat) (s t : ByteArray) (dm : DataW Unit) (w : World) (hs : s.size ≤ 255) (ht : t.size ≤ 255) (hn : n < maxLen) (hM : OM w M n dm) (hb : ∀ z, dm.atKey (kS s) z = fd b) (h1 : At w b1 9 [.string s]) (h2 : At w b2 9 [.string t]) :
    Calls Tryd.prog 43 #[.map (some M), .pointer (some ⟨b1, 0, none⟩), .pointer (some ⟨b2, 0, none⟩)] w fun e w' => e = .returned (.tuple #[]) ∧ OM w' M (n + 1) ((dm.del (kS s)).put (kS t) (fd b)) ∧ w.grownBy w' (some M) := by
  have c1 := h1.cell (i := 0) rfl
  have c2 := h2.cell (i := 0) rfl
  obtain ⟨v, ps, hrun, hv⟩ := World.ownsMap.lookup hM (Maps.string_keyed Tryd.underlying9) Tryd.underlying72 (Tryd.zeroValue66 w) (zd := .lit (.bool false)) (zp := []) rfl (keyS s hs)
  rw [hb] at hv
  obtain rfl := rp_inv hv
  have HM := Hid.of hM
  have HK := Hid.of (keyS s hs)
  have HT := Hid.of (keyS t ht)
  have HB1 := Hid.of h1
  have HB2 := Hid.of h2
  clear hM h1 h2 hs ht hv
  go_enter Tryd.func43, Tryd.ntmps43
  go_wp2_with (with_reducible show wpList _ _ _ ({ dst := _, op := Op.call { callee := Callee.builtin Builtin.delete, args := _, argTypes := _ }, type := _, pos := _, after := _, guard := _ } :: _) _ _; refine Shut.out ?_)
  show wpList _ _ _ _ _ _
  refine wpList_delete_own _ rfl _ _ 72 9 rfl 66 (Maps.string_keyed Tryd.underlying9) Tryd.underlying72 rp M n dm rfl HM.out _ (kS s) rfl HK.out ?_
  intro w1 o1 g1
  have HO := Hid.of o1
  have HG := Hid.of g1.grown
  have c2b := (HB2.out.by HG.out (fun e => map_neB HM.out HB2.out (Option.some.inj e))).cell (i := 0) rfl
  clear o1 g1 c1 c2 hrun
  simp only [Act.put]
  go_wp2_with (with_reducible show wpList _ _ _ ({ dst := _, op := Op.mapUpdate 72 _ _ _, type := _, pos := _, after := _, guard := _ } :: _) _ _; refine Shut.out ?_)
  show wpList _ _ _ _ _ _
  refine wpList_mapUpdate_own _ rfl _ _ _ 72 rfl 9 66 (Maps.string_keyed Tryd.underlying9) Tryd.underlying72 rp M n _ rfl HO.out hn _ _ (kS t) rfl rfl HT.out (fd b) [] rfl ?_
  intro w2 o2 g2
  have HO2 := Hid.of o2
  have HG2 := Hid.of (grown_trans HG.out g2)
  clear o2 g2
  simp only [Act.put]
  go_wp2
  go_end0
  exact ⟨rfl, HO2.out, HG2.out⟩
set_option maxRecDepth 100000 in
set_option maxHeartbeats 2000000 in
theorem change_Create11 (B D M n n0 nc : Nat) (dm dm0 : DataW Unit) (x0 x1 x2 x4 vC x6 x7 x8 x9 x10 x11 c0 c1 : Value) (cs : List Value) (w : World) (hA : At w D 82 [x0, x1, x2, .map (some M), x4, vC, x6, x7, x8, x9, x10, x11]) (hM : OM w M n0 dm0) (hC : w.ownsRow B 95 1 vC nc cs) (hB : B ≤ w.heap.size) (hn : nc ≤ 1099511627776)
    (H : Calls Tryd.prog 32 #[.map (some M), c0, c1] w fun e w' => e = .returned (.tuple #[]) ∧ OM w' M n dm ∧ w.grownBy w' (some M)) :
    Calls Tryd.prog 31 #[.pointer (some ⟨D, 0, none⟩), (.func (.func 32) #[] #[c0, c1])] w fun e w' => e = .returned (.tuple #[]) ∧ ∃ vC', At w' D 82 [x0, x1, x2, .map (some M), x4, vC', x6, x7, x8, x9, x10, x11] ∧ w'.ownsRow B 95 1 vC' (nc + 1) (cs ++ [(.func (.func 32) #[] #[c0, c1])]) ∧ OM w' M n dm ∧ Fr (fun k => k = D ∨ k = M ∨ vC.ownBlock = some k) w w' ∧ Frs w vC vC' := by
  obtain ⟨i0, hi, hz0, hz1, hz2⟩ := info_parts Tryd.infoNact2
  have HC := Hid.of H
  have HA := Hid.of hA
  have HCs := Hid.of hC
  have HM0 := Hid.of hM
  have c3 := hA.cell (i := 3) rfl
  obtain ⟨aC, cC, hvC⟩ : ∃ aC cC, vC = .slice aC nc cC := by
    rcases hC.2 with ⟨h, h0⟩ | ⟨g, cap, cur, h, _⟩
    · exact ⟨none, 0, by rw [h, h0]⟩
    · exact ⟨_, cap, h⟩
  subst hvC
  clear hA hC H hM
  go_enter Tryd.func31, Tryd.ntmps31
  go_wp2_with fail
  refine HC.out.mono ?_
  rintro e w1 ⟨rfl, m1, g1⟩
  have HM1 := Hid.of m1
  have HFr1 := Hid.of ((Fr.refl (fun k => k = D ∨ k = M ∨ (Value.slice aC nc cC).ownBlock = some k) w).by g1 (fun g hg => .inl (.inr (.inl (Option.some.inj hg).symm))))
  have HA1 := Hid.of (HA.out.by g1 (fun e => map_neB HM0.out HA.out (Option.some.inj e)))
  have HC1 := Hid.of (World.ownsRow.kept HCs.out g1 (.inr (map_ownB HM0.out HCs.out)))
  have c5 := HA1.out.cell (i := 5) rfl
  have HU1 := Hid.of ((Up.refl w1).alloc (.cells [(.func (.func 32) #[] #[c0, c1])].toArray 95))
  have HBw := Hid.of (Nat.le_trans hB g1.size)
  clear m1 g1 HC HA HCs c3
  dsimp only
  go_wp2_with (with_reducible show wpList _ _ _ ({ dst := _, op := Op.call { callee := Callee.builtin Builtin.append, args := _, argTypes := _ }, type := _, pos := _, after := _, guard := _ } :: _) _ _; refine Shut.out ?_)
  show wpList _ _ _ _ _ _
  refine wpList_append_frs rfl _ _ 79 rfl B 95 i0 (.agg #[.nilFunc]) 8 Tryd.underlying79 hi hz0 hz1 hz2 rfl (.slice aC nc cC) nc cs rfl (ow_up HC1.out HU1.out) ⟨w1.heap.size, 0, none⟩ 1 1 [(.func (.func 32) #[] #[c0, c1])] rfl rfl ?_ ?_ (by simp only [maxLen]; omega) (by omega) (by have := HBw.out; simp; omega) ?_
  · intro j u hu
    rw [Addr.add_lit]
    exact At.cell (at_new w1 95 [(.func (.func 32) #[] #[c0, c1])]) (i := 0 + j) (by rw [Nat.zero_add]; exact hu)
  · intro u hu
    obtain rfl := List.mem_singleton.1 hu
    rfl
  intro v2 w2 o2 g2 f2
  obtain ⟨a2, n2, c2, hv2⟩ : ∃ a n c, v2 = .slice a n c := by
    rcases o2.2 with ⟨h, _⟩ | ⟨g, cap, cur, h, _⟩
    · exact ⟨_, _, _, h⟩
    · exact ⟨_, _, _, h⟩
  subst hv2
  have HA1u := HA1.out.up HU1.out
  have HC1u := ow_up HC1.out HU1.out
  have HM1u : OM _ M n dm := HM1.out.up HU1.out
  have HFr2 := Hid.of ((HFr1.out.up HU1.out).by g2 (fun g hg => .inl (.inr (.inr hg))))
  have HA2 := Hid.of (HA1u.by g2 (own_ne HC1u HA1u (by decide)))
  have HM2 := Hid.of (show OM w2 M n dm from World.ownsMap.kept HM1u g2 (fun e => map_ownB HM1u HC1u e.symm))
  have HO2 := Hid.of o2
  have e5 := HA2.out.cell (i := 5) rfl
  have t5 := HA2.out.thaw 5
  have HA3 := Hid.of (HA2.out.set 5 (.slice a2 n2 c2))
  have HG3 := Hid.of (grown_at w2 D 5 (.slice a2 n2 c2))
  have HFs := Hid.of (show Frs w (.slice aC nc cC) (.slice a2 n2 c2) from fun g hg => (f2 g hg).imp id (fun h => by have := HFr1.out.size; have := HU1.out.size; omega))
  clear o2 g2 f2 c5 HFr1 HA1 HM1 HA1u HC1u HM1u
  simp only [Act.put, List.setIfInBounds_toArray, List.set_cons_zero, List.set_cons_succ]
  go_wp2
  go_end0
  exact ⟨rfl, _, HA3.out, World.ownsRow.kept HO2.out HG3.out (.inr (own_ne HO2.out HA2.out (by decide))), World.ownsMap.kept HM2.out HG3.out (fun e => map_neB HM2.out HA2.out (Option.some.inj e)), HFr2.out.by HG3.out (fun g hg => .inl (.inl (Option.some.inj hg).symm)), HFs.out⟩
set_option maxRecDepth 100000 in
set_option maxHeartbeats 2000000 in
theorem change_Remove11 (B D M n n0 nc : Nat) (dm dm0 : DataW Unit) (x0 x1 x2 x4 vC x6 x7 x8 x9 x10 x11 c0 : Value) (cs : List Value) (w : World) (hA : At w D 82 [x0, x1, x2, .map (some M), x4, vC, x6, x7, x8, x9, x10, x11]) (hM : OM w M n0 dm0) (hC : w.ownsRow B 95 1 vC nc cs) (hB : B ≤ w.heap.size) (hn : nc ≤ 1099511627776)
    (H : Calls Tryd.prog 41 #[.map (some M), c0] w fun e w' => e = .returned (.tuple #[]) ∧ OM w' M n dm ∧ w.grownBy w' (some M)) :
    Calls Tryd.prog 31 #[.pointer (some ⟨D, 0, none⟩), (.func (.func 41) #[] #[c0])] w fun e w' => e = .returned (.tuple #[]) ∧ ∃ vC', At w' D 82 [x0, x1, x2, .map (some M), x4, vC', x6, x7, x8, x9, x10, x11] ∧ w'.ownsRow B 95 1 vC' (nc + 1) (cs ++ [(.func (.func 41) #[] #[c0])]) ∧ OM w' M n dm ∧ Fr (fun k => k = D ∨ k = M ∨ vC.ownBlock = some k) w w' ∧ Frs w vC vC' := by
  obtain ⟨i0, hi, hz0, hz1, hz2⟩ := info_parts Tryd.infoNact2
  have HC := Hid.of H
  have HA := Hid.of hA
  have HCs := Hid.of hC
  have HM0 := Hid.of hM
  have c3 := hA.cell (i := 3) rfl
  obtain ⟨aC, cC, hvC⟩ : ∃ aC cC, vC = .slice aC nc cC := by
    rcases hC.2 with ⟨h, h0⟩ | ⟨g, cap, cur, h, _⟩
    · exact ⟨none, 0, by rw [h, h0]⟩
    · exact ⟨_, cap, h⟩
  subst hvC
  clear hA hC H hM
  go_enter Tryd.func31, Tryd.ntmps31
  go_wp2_with fail
  refine HC.out.mono ?_
  rintro e w1 ⟨rfl, m1, g1⟩
  have HM1 := Hid.of m1
  have HFr1 := Hid.of ((Fr.refl (fun k => k = D ∨ k = M ∨ (Value.slice aC nc cC).ownBlock = some k) w).by g1 (fun g hg => .inl (.inr (.inl (Option.some.inj hg).symm))))
  have HA1 := Hid.of (HA.out.by g1 (fun e => map_neB HM0.out HA.out (Option.some.inj e)))
  have HC1 := Hid.of (World.ownsRow.kept HCs.out g1 (.inr (map_ownB HM0.out HCs.out)))
  have c5 := HA1.out.cell (i := 5) rfl
  have HU1 := Hid.of ((Up.refl w1).alloc (.cells [(.func (.func 41) #[] #[c0])].toArray 95))
  have HBw := Hid.of (Nat.le_trans hB g1.size)
  clear m1 g1 HC HA HCs c3
  dsimp only
  go_wp2_with (with_reducible show wpList _ _ _ ({ dst := _, op := Op.call { callee := Callee.builtin Builtin.append, args := _, argTypes := _ }, type := _, pos := _, after := _, guard := _ } :: _) _ _; refine Shut.out ?_)
  show wpList _ _ _ _ _ _
  refine wpList_append_frs rfl _ _ 79 rfl B 95 i0 (.agg #[.nilFunc]) 8 Tryd.underlying79 hi hz0 hz1 hz2 rfl (.slice aC nc cC) nc cs rfl (ow_up HC1.out HU1.out) ⟨w1.heap.size, 0, none⟩ 1 1 [(.func (.func 41) #[] #[c0])] rfl rfl ?_ ?_ (by simp only [maxLen]; omega) (by omega) (by have := HBw.out; simp; omega) ?_
  · intro j u hu
    rw [Addr.add_lit]
    exact At.cell (at_new w1 95 [(.func (.func 41) #[] #[c0])]) (i := 0 + j) (by rw [Nat.zero_add]; exact hu)
  · intro u hu
    obtain rfl := List.mem_singleton.1 hu
    rfl
  intro v2 w2 o2 g2 f2
  obtain ⟨a2, n2, c2, hv2⟩ : ∃ a n c, v2 = .slice a n c := by
    rcases o2.2 with ⟨h, _⟩ | ⟨g, cap, cur, h, _⟩
    · exact ⟨_, _, _, h⟩
    · exact ⟨_, _, _, h⟩
  subst hv2
  have HA1u := HA1.out.up HU1.out
  have HC1u := ow_up HC1.out HU1.out
  have HM1u : OM _ M n dm := HM1.out.up HU1.out
  have HFr2 := Hid.of ((HFr1.out.up HU1.out).by g2 (fun g hg => .inl (.inr (.inr hg))))
  have HA2 := Hid.of (HA1u.by g2 (own_ne HC1u HA1u (by decide)))
  have HM2 := Hid.of (show OM w2 M n dm from World.ownsMap.kept HM1u g2 (fun e => map_ownB HM1u HC1u e.symm))
  have HO2 := Hid.of o2
  have e5 := HA2.out.cell (i := 5) rfl
  have t5 := HA2.out.thaw 5
  have HA3 := Hid.of (HA2.out.set 5 (.slice a2 n2 c2))
  have HG3 := Hid.of (grown_at w2 D 5 (.slice a2 n2 c2))
  have HFs := Hid.of (show Frs w (.slice aC nc cC) (.slice a2 n2 c2) from fun g hg => (f2 g hg).imp id (fun h => by have := HFr1.out.size; have := HU1.out.size; omega))
  clear o2 g2 f2 c5 HFr1 HA1 HM1 HA1u HC1u HM1u
  simp only [Act.put, List.setIfInBounds_toArray, List.set_cons_zero, List.set_cons_succ]
  go_wp2
  go_end0
  exact ⟨rfl, _, HA3.out, World.ownsRow.kept HO2.out HG3.out (.inr (own_ne HO2.out HA2.out (by decide))), World.ownsMap.kept HM2.out HG3.out (fun e => map_neB HM2.out HA2.out (Option.some.inj e)), HFr2.out.by HG3.out (fun g hg => .inl (.inl (Option.some.inj hg).symm)), HFs.out⟩
set_option maxRecDepth 100000 in
set_option maxHeartbeats 2000000 in
theorem change_Rename11 (B D M n n0 nc : Nat) (dm dm0 : DataW Unit) (x0 x1 x2 x4 vC x6 x7 x8 x9 x10 x11 c0 c1 : Value) (cs : List Value) (w : World) (hA : At w D 82 [x0, x1, x2, .map (some M), x4, vC, x6, x7, x8, x9, x10, x11]) (hM : OM w M n0 dm0) (hC : w.ownsRow B 95 1 vC nc cs) (hB : B ≤ w.heap.size) (hn : nc ≤ 1099511627776)
    (H : Calls Tryd.prog 43 #[.map (some M), c0, c1] w fun e w' => e = .returned (.tuple #[]) ∧ OM w' M n dm ∧ w.grownBy w' (some M)) :
    Calls Tryd.prog 31 #[.pointer (some ⟨D, 0, none⟩), (.func (.func 43) #[] #[c0, c1])] w fun e w' => e = .returned (.tuple #[]) ∧ ∃ vC', At w' D 82 [x0, x1, x2, .map (some M), x4, vC', x6, x7, x8, x9, x10, x11] ∧ w'.ownsRow B 95 1 vC' (nc + 1) (cs ++ [(.func (.func 43) #[] #[c0, c1])]) ∧ OM w' M n dm ∧ Fr (fun k => k = D ∨ k = M ∨ vC.ownBlock = some k) w w' ∧ Frs w vC vC' := by
  obtain ⟨i0, hi, hz0, hz1, hz2⟩ := info_parts Tryd.infoNact2
  have HC := Hid.of H
  have HA := Hid.of hA
  have HCs := Hid.of hC
  have HM0 := Hid.of hM
  have c3 := hA.cell (i := 3) rfl
  obtain ⟨aC, cC, hvC⟩ : ∃ aC cC, vC = .slice aC nc cC := by
    rcases hC.2 with ⟨h, h0⟩ | ⟨g, cap, cur, h, _⟩
    · exact ⟨none, 0, by rw [h, h0]⟩
    · exact ⟨_, cap, h⟩
  subst hvC
  clear hA hC H hM
  go_enter Tryd.func31, Tryd.ntmps31
  go_wp2_with fail
  refine HC.out.mono ?_
  rintro e w1 ⟨rfl, m1, g1⟩
  have HM1 := Hid.of m1
  have HFr1 := Hid.of ((Fr.refl (fun k => k = D ∨ k = M ∨ (Value.slice aC nc cC).ownBlock = some k) w).by g1 (fun g hg => .inl (.inr (.inl (Option.some.inj hg).symm))))
  have HA1 := Hid.of (HA.out.by g1 (fun e => map_neB HM0.out HA.out (Option.some.inj e)))
  have HC1 := Hid.of (World.ownsRow.kept HCs.out g1 (.inr (map_ownB HM0.out HCs.out)))
  have c5 := HA1.out.cell (i := 5) rfl
  have HU1 := Hid.of ((Up.refl w1).alloc (.cells [(.func (.func 43) #[] #[c0, c1])].toArray 95))
  have HBw := Hid.of (Nat.le_trans hB g1.size)
  clear m1 g1 HC HA HCs c3
  dsimp only
  go_wp2_with (with_reducible show wpList _ _ _ ({ dst := _, op := Op.call { callee := Callee.builtin Builtin.append, args := _, argTypes := _ }, type := _, pos := _, after := _, guard := _ } :: _) _ _; refine Shut.out ?_)
  show wpList _ _ _ _ _ _
  refine wpList_append_frs rfl _ _ 79 rfl B 95 i0 (.agg #[.nilFunc]) 8 Tryd.underlying79 hi hz0 hz1 hz2 rfl (.slice aC nc cC) nc cs rfl (ow_up HC1.out HU1.out) ⟨w1.heap.size, 0, none⟩ 1 1 [(.func (.func 43) #[] #[c0, c1])] rfl rfl ?_ ?_ (by simp only [maxLen]; omega) (by omega) (by have := HBw.out; simp; omega) ?_
  · intro j u hu
    rw [Addr.add_lit]
    exact At.cell (at_new w1 95 [(.func (.func 43) #[] #[c0, c1])]) (i := 0 + j) (by rw [Nat.zero_add]; exact hu)
  · intro u hu
    obtain rfl := List.mem_singleton.1 hu
    rfl
  intro v2 w2 o2 g2 f2
  obtain ⟨a2, n2, c2, hv2⟩ : ∃ a n c, v2 = .slice a n c := by
    rcases o2.2 with ⟨h, _⟩ | ⟨g, cap, cur, h, _⟩
    · exact ⟨_, _, _, h⟩
    · exact ⟨_, _, _, h⟩
  subst hv2
  have HA1u := HA1.out.up HU1.out
  have HC1u := ow_up HC1.out HU1.out
  have HM1u : OM _ M n dm := HM1.out.up HU1.out
  have HFr2 := Hid.of ((HFr1.out.up HU1.out).by g2 (fun g hg => .inl (.inr (.inr hg))))
  have HA2 := Hid.of (HA1u.by g2 (own_ne HC1u HA1u (by decide)))
  have HM2 := Hid.of (show OM w2 M n dm from World.ownsMap.kept HM1u g2 (fun e => map_ownB HM1u HC1u e.symm))
  have HO2 := Hid.of o2
  have e5 := HA2.out.cell (i := 5) rfl
  have t5 := HA2.out.thaw 5
  have HA3 := Hid.of (HA2.out.set 5 (.slice a2 n2 c2))
  have HG3 := Hid.of (grown_at w2 D 5 (.slice a2 n2 c2))
  have HFs := Hid.of (show Frs w (.slice aC nc cC) (.slice a2 n2 c2) from fun g hg => (f2 g hg).imp id (fun h => by have := HFr1.out.size; have := HU1.out.size; omega))
  clear o2 g2 f2 c5 HFr1 HA1 HM1 HA1u HC1u HM1u
  simp only [Act.put, List.setIfInBounds_toArray, List.set_cons_zero, List.set_cons_succ]
  go_wp2
  go_end0
  exact ⟨rfl, _, HA3.out, World.ownsRow.kept HO2.out HG3.out (.inr (own_ne HO2.out HA2.out (by decide))), World.ownsMap.kept HM2.out HG3.out (fun e => map_neB HM2.out HA2.out (Option.some.inj e)), HFr2.out.by HG3.out (fun g hg => .inl (.inl (Option.some.inj hg).symm)), HFs.out⟩
end Go.Proofs.YtepakbghhnkcfaaDoor
