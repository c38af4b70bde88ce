import Derived.Test.YtepakbghhnkcfaaDoorDw
namespace Go.Proofs.YtepakbghhnkcfaaDoor
open Go.RowKit Go.Shelf TextNum ModNum
theorem Tryd.infoPf : (Tryd.prog.info? 66).map (fun i => (i.zero, i.size, i.bytes)) = some (some (.pointer none), 1, 8) := by kernel_rfl
set_option maxRecDepth 100000 in
set_option maxHeartbeats 1000000 in
theorem release_no (D M n : Nat) (s : ByteArray) (dm : DataW Unit) (x0 x1 x2 x4 x5 x6 x7 x8 x9 x10 x11 : Value) (w : World) (hs : s.size ≤ 255) (hA : At w D 82 [x0, x1, x2, .map (some M), x4, x5, x6, x7, x8, x9, x10, x11]) (hM : OM w M n dm) (hh : Maps.has dm (kS s) = false) :
    Calls Tryd.prog 30 #[.pointer (some ⟨D, 0, none⟩), .string s] w fun e w' => e = .returned (.tuple #[]) ∧ w' = w := by
  have c3 := hA.cell (i := 3) rfl
  have HM := Hid.of hM
  have HK := Hid.of (keyS s hs)
  have HZ := Hid.of (has_not (.lit (.bool false)) hh)
  have HH := Hid.of hh
  clear hA hM hh hs
  go_enter Tryd.func30, Tryd.ntmps30
  go_wp2_with (with_reducible show wpList _ _ _ ({ dst := _, op := Op.lookup 72 _ _ _, type := _, pos := _, after := _, guard := _ } :: _) _ _; refine Shut.out ?_)
  show wpList _ _ _ _ _ _
  refine wpList_lookup_own_ok _ rfl _ _ 72 rfl 9 66 (Maps.string_keyed Tryd.underlying9) Tryd.underlying72 rp (Tryd.zeroValue66 _) (.lit (.bool false)) [] rfl M n dm rfl HM.out _ (kS s) rfl HK.out ?_
  intro v ps hv
  rw [HZ.out] at hv
  obtain rfl := rp_inv0' hv
  rw [HH.out]
  clear hv
  simp only [Act.put, List.setIfInBounds_toArray, List.set_cons_zero, List.set_cons_succ]
  go_wp2
  go_end0
  exact ⟨rfl, rfl⟩
set_option maxRecDepth 100000 in
set_option maxHeartbeats 2000000 in
theorem release_yes (B D M n b ln nl : Nat) (used : Int) (s : ByteArray) (dm : DataW Unit) (an : Option Addr) (cn : Nat) (x0 x2 x4 x5 vLo x7 x8 x9 x10 x11 y1 y2 : Value) (cs : List Value) (w : World) (hs : s.size ≤ 255) (hA : At w D 82 [x0, .int .i64 used, x2, .map (some M), x4, x5, vLo, x7, x8, x9, x10, x11]) (hM : OM w M n dm)
    (hh : Maps.has dm (kS s) = true) (hb : ∀ z, dm.atKey (kS s) z = fd b) (hF : At w b 69 [.slice an ln cn, y1, y2]) (hL : w.ownsRow B 66 1 vLo nl cs) (hB : B ≤ w.heap.size) (hn : nl ≤ 1099511627776) (hu0 : 0 ≤ used) (hu1 : used ≤ 4611686018427387904) (hl : ln ≤ 1099511627776) :
    Calls Tryd.prog 30 #[.pointer (some ⟨D, 0, none⟩), .string s] w fun e w' => e = .returned (.tuple #[]) ∧ ∃ vLo', At w' D 82 [x0, .int .i64 (used - ln), x2, .map (some M), x4, x5, vLo', x7, x8, x9, x10, x11] ∧ w'.ownsRow B 66 1 vLo' (nl + 1) (cs ++ [.pointer (some ⟨b, 0, none⟩)]) ∧ Fr (fun k => k = D ∨ vLo.ownBlock = some k) w w' ∧ Frs w vLo vLo' := by
  obtain ⟨i0, hi, hz0, hz1, hz2⟩ := info_parts Tryd.infoPf
  have c3 := hA.cell (i := 3) rfl
  have c1 := hA.cell (i := 1) rfl
  have t1 := hA.thaw 1
  have cf := hF.cell (i := 0) rfl
  obtain ⟨aL, cL, hvL⟩ : ∃ aL cL, vLo = .slice aL nl cL := by
    rcases hL.2 with ⟨h, h0⟩ | ⟨g, cap, cur, h, _⟩
    · exact ⟨none, 0, by rw [h, h0]⟩
    · exact ⟨_, cap, h⟩
  subst hvL
  have HA := Hid.of hA
  have HL := Hid.of hL
  have HM := Hid.of hM
  have HK := Hid.of (keyS s hs)
  have HZ := Hid.of (hb (.lit (.bool false)))
  have HH := Hid.of hh
  have hw1 : IntKind.i64.wrap (used - (ln : Int)) = used - (ln : Int) := by rw [IntKind.wrap_i64]; omega
  clear hA hM hh hs hb hF hL
  go_enter Tryd.func30, Tryd.ntmps30
  go_wp2_with (with_reducible show wpList _ _ _ ({ dst := _, op := Op.lookup 72 _ _ _, type := _, pos := _, after := _, guard := _ } :: _) _ _; refine Shut.out ?_)
  show wpList _ _ _ _ _ _
  refine wpList_lookup_own_ok _ rfl _ _ 72 rfl 9 66 (Maps.string_keyed Tryd.underlying9) Tryd.underlying72 rp (Tryd.zeroValue66 _) (.lit (.bool false)) [] rfl M n dm rfl HM.out _ (kS s) rfl HK.out ?_
  intro v ps hv
  rw [HZ.out] at hv
  obtain rfl := rp_inv hv
  rw [HH.out]
  clear hv
  simp only [Act.put, List.setIfInBounds_toArray, List.set_cons_zero, List.set_cons_succ]
  go_wp2
  apply wp_once
  case h =>
    go_region
    all_goals exact ⟨rfl, rfl⟩
  have HG1 := Hid.of (grown_up (grown_at w D 1 (.int .i64 (used - (ln : Int)))) (Up.refl _).drew)
  have HA1 := Hid.of ((HA.out.set 1 (.int .i64 (used - (ln : Int)))).up (Up.refl _).drew)
  generalize (w.setCell ⟨D, 1, none⟩ (.int .i64 (used - (ln : Int)))).drew = w1 at *
  have HL1 := Hid.of (World.ownsRow.kept HL.out HG1.out (.inr (own_ne HL.out HA.out (by decide))))
  have HFr1 := Hid.of ((Fr.refl (fun k => k = D ∨ (Value.slice aL nl cL).ownBlock = some k) w).by HG1.out (fun g hg => .inl (.inl (Option.some.inj hg).symm)))
  have c6 := HA1.out.cell (i := 6) rfl
  have HU1 := Hid.of ((Up.refl w1).alloc (.cells [.pointer (some ⟨b, 0, none⟩)].toArray 66))
  have HBw := Hid.of (Nat.le_trans hB HG1.out.size)
  clear c1 c3 t1 cf HA HL HG1 HM hw1
  go_wp2_with (with_reducible show wpList _ _ _ ({ dst := _, op := Op.call { callee := Callee.builtin Builtin.append, args := _, argTypes := _ }, type := _, pos := _, after := _, guard := _ } :: _) _ _; refine Shut.out ?_)
  show wpList _ _ _ _ _ _
  refine wpList_append_frs rfl _ _ 80 rfl B 66 i0 (.pointer none) 8 Tryd.underlying80 hi hz0 hz1 hz2 rfl (.slice aL nl cL) nl cs rfl (ow_up HL1.out HU1.out) ⟨w1.heap.size, 0, none⟩ 1 1 [.pointer (some ⟨b, 0, none⟩)] rfl rfl ?_ ?_ (by simp only [maxLen]; omega) (by omega) (by have := HBw.out; simp; omega) ?_
  · intro j u hu
    rw [Addr.add_lit]
    exact At.cell (at_new w1 66 [.pointer (some ⟨b, 0, none⟩)]) (i := 0 + j) (by rw [Nat.zero_add]; exact hu)
  · intro u hu
    obtain rfl := List.mem_singleton.1 hu
    rfl
  intro v2 w2 o2 g2 f2
  obtain ⟨a2, n2, c2, hv2⟩ : ∃ a n c, v2 = .slice a n c := by
    rcases o2.2 with ⟨h, _⟩ | ⟨g, cap, cur, h, _⟩
    · exact ⟨_, _, _, h⟩
    · exact ⟨_, _, _, h⟩
  subst hv2
  have HA1u := HA1.out.up HU1.out
  have HL1u := ow_up HL1.out HU1.out
  have HFr2 := Hid.of ((HFr1.out.up HU1.out).by g2 (fun g hg => .inl (.inr hg)))
  have HA2 := Hid.of (HA1u.by g2 (own_ne HL1u HA1u (by decide)))
  have HO2 := Hid.of o2
  have e6 := HA2.out.cell (i := 6) rfl
  have t6 := HA2.out.thaw 6
  have HA3 := Hid.of (HA2.out.set 6 (.slice a2 n2 c2))
  have HG3 := Hid.of (grown_at w2 D 6 (.slice a2 n2 c2))
  have HFs := Hid.of (show Frs w (.slice aL nl cL) (.slice a2 n2 c2) from fun g hg => (f2 g hg).imp id (fun h => by have := HFr1.out.size; have := HU1.out.size; omega))
  clear o2 g2 f2 c6 HFr1 HA1 HL1 HA1u HL1u
  simp only [Act.put, List.setIfInBounds_toArray, List.set_cons_zero, List.set_cons_succ]
  go_wp2
  go_end0
  exact ⟨rfl, _, HA3.out, World.ownsRow.kept HO2.out HG3.out (.inr (own_ne HO2.out HA2.out (by decide))), HFr2.out.by HG3.out (fun g hg => .inl (.inl (Option.some.inj hg).symm)), HFs.out⟩
end Go.Proofs.YtepakbghhnkcfaaDoor
