import Derived.Test.YtdebcddbjkejmaaDoorOp
import Derived.Test.YtdebcddbjkejmaaDoorQq
import Derived.Test.YtdebcddbjkejmaaDoorBf
import Derived.Deep.RegionWith
namespace Go.Proofs.YtdebcddbjkejmaaDoor
open Go.RowKit TextNum

theorem vs_app (a b : List UInt8) : (⟨(a ++ b).toArray⟩ : ByteArray) = ⟨a.toArray⟩ ++ ⟨b.toArray⟩ := by
  apply ByteArray.ext
  simp
theorem ba_list {s t : ByteArray} (h : s.data.toList = t.data.toList) : s = t := by
  obtain ⟨⟨x⟩⟩ := s
  obtain ⟨⟨y⟩⟩ := t
  simp at h
  rw [h]
theorem app_list' (a b : ByteArray) : (a ++ b).data.toList = a.data.toList ++ b.data.toList := by simp
theorem sl_new (w : World) (l : List UInt8) (t : TypeId) : Sl (w.alloc (.cells (cb l).toArray t)) (.slice (some ⟨w.heap.size, 0, none⟩) l.length l.length) l := by
  refine ⟨_, _, rfl, Nat.le_refl _, .inr ⟨w.heap.size, 0, rfl, by simp, fun i hi => ?_⟩⟩
  have := cells_new w t (cb l) i _ (cb_get hi)
  rwa [add_plain] at this

theorem sl_rest {w : World} {a : Option Addr} {n c k : Nat} {l : List UInt8} (h : Sl w (.slice a n c) l) (hk : k ≤ l.length) : Sl w (.slice (Option.map (fun x => x.add k) a) (n - k) (c - k)) (l.drop k) := by
  obtain ⟨a', c', e, hc, h⟩ := h
  cases e
  refine ⟨_, _, by rw [List.length_drop], by rw [List.length_drop]; omega, ?_⟩
  rcases h with rfl | ⟨b, off, rfl, hb, hcell⟩
  · exact .inl (by simp)
  · refine .inr ⟨b, off + k, by rw [Option.map_some, add_plain], hb, fun i hi => ?_⟩
    rw [List.length_drop] at hi
    rw [Nat.add_assoc, hcell (k + i) (by omega), List.getElem_drop]
theorem sl_rest_in {w : World} {a : Option Addr} {n c k : Nat} {l : List UInt8} (h : Sl w (.slice a n c) l) (hc : c = k) (c' : Nat) : Sl w (.slice a (n - k) c') (l.drop k) := by
  obtain ⟨a', c2, e, hc2, h⟩ := h
  cases e
  have hd : l.drop k = [] := List.drop_eq_nil_of_le (by omega)
  rw [hd, show l.length - k = ([] : List UInt8).length by simp; omega]
  exact ⟨_, _, rfl, Nat.zero_le _, .inl rfl⟩
theorem b64_join (la lb : List UInt8) : b64E (la ++ lb) = b64E (la.take (la.length - la.length % 3)) ++ b64E ((la ++ lb).drop (la.length - la.length % 3)) := by
  rw [← b64E_append _ _ (by simp; omega), ← List.take_append_of_le_length (l₂ := lb) (by omega), List.take_append_drop]

set_option linter.unusedSimpArgs false in
set_option maxRecDepth 100000 in
set_option maxHeartbeats 3000000 in
theorem joins_walk (va vb : Value) (la lb : List UInt8) (w : World) (hT : TabD w ∧ TabL w) (hA : Sl w va la) (hB : Sl w vb lb) (hl : la.length + lb.length ≤ 1048576) :
    Calls Tryd.prog 3 #[va, vb] w fun e w' => e = .returned (.bool true) ∧ Up w w' := by
  obtain ⟨a0, c0, ea, hc0, _⟩ := id hA
  obtain ⟨a1, c1, eb, hc1, _⟩ := id hB
  subst ea eb
  have HA := Hid.of hA
  have HB := Hid.of hB
  have HT := Hid.of hT
  clear hA hB hT
  go_enter Tryd.func3, Tryd.ntmps3
  go_wp2_with (with_reducible show wpList _ _ _ ({ dst := _, op := Op.call { callee := Callee.builtin Builtin.append, args := _, argTypes := _ }, type := _, pos := _, after := _, guard := _ } :: _) _ _; refine Shut.out ?_)
  show wpList _ _ _ _ _ _
  refine wpList_appSl rfl _ _ rfl w.heap.size _ _ [] la rfl (by exact own_nil _ _) rfl (by exact HA.out) (by simp; omega) (Nat.le_refl _) ?_
  intro v1 w1 h1 b1
  simp only [Act.put, List.setIfInBounds_toArray, List.set_cons_zero, List.set_cons_succ]
  have H1 := Hid.of (And.intro h1 (show Up w w1 from b1))
  clear h1 b1
  go_wp2_with (with_reducible show wpList _ _ _ ({ dst := _, op := Op.call { callee := Callee.builtin Builtin.append, args := _, argTypes := _ }, type := _, pos := _, after := _, guard := _ } :: _) _ _; refine Shut.out ?_)
  show wpList _ _ _ _ _ _
  refine wpList_appSl rfl _ _ rfl w.heap.size _ _ la lb rfl (by exact H1.out.1) rfl (by exact HB.out.up H1.out.2) (by omega) H1.out.2.size ?_
  intro v2 w2 h2 b2
  simp only [Act.put, List.setIfInBounds_toArray, List.set_cons_zero, List.set_cons_succ]
  have H2 := Hid.of (And.intro h2 (show Up w w2 from H1.out.2.step (Nat.le_refl _) b2))
  clear h2 b2 H1
  obtain ⟨a2, c2, ev⟩ := H2.out.1.len
  rw [List.length_append] at ev
  subst ev
  go_wp2_with fail
  refine (EncodeHex_walk _ [16, 1] _ (HT.out.1.up (H2.out.2.alloc _)) (sl_new w2 [16, 1] _) (by decide)).mono ?_
  rintro e w3 ⟨rfl, u3⟩
  have H3 := Hid.of (show Up w2 w3 from ((Up.refl w2).alloc _).trans u3)
  clear u3
  rw [show hexE [16, 1] = [49, 48, 48, 49] by decide]
  dsimp only
  go_wp2_with fail
  refine (EncodeHex_walk _ (la ++ lb) _ (HT.out.1.up (H2.out.2.trans H3.out)) (by exact H2.out.1.sl.up H3.out) (by simp; omega)).mono ?_
  rintro e w4 ⟨rfl, u4⟩
  have H4 := Hid.of (H3.out.trans u4)
  clear u4 H3
  dsimp only
  go_wp2_with fail
  refine (EncodeHex_walk _ la _ (HT.out.1.up (H2.out.2.trans H4.out)) (by exact HA.out.up (H2.out.2.trans H4.out)) (by omega)).mono ?_
  rintro e w5 ⟨rfl, u5⟩
  have H5 := Hid.of (H4.out.trans u5)
  clear u5 H4
  dsimp only
  go_wp2_with fail
  refine (EncodeHex_walk _ lb _ (HT.out.1.up (H2.out.2.trans H5.out)) (by exact HB.out.up (H2.out.2.trans H5.out)) (by omega)).mono ?_
  rintro e w6 ⟨rfl, u6⟩
  have H6 := Hid.of (H5.out.trans u6)
  clear u6 H5
  rw [show vs (hexE (la ++ lb)) = .string (⟨(hexE la).toArray⟩ ++ ⟨(hexE lb).toArray⟩) by rw [hexE_append, ← vs_app]]
  have hs1 : (⟨(hexE la).toArray⟩ : ByteArray).size ≤ 2097152 := by rw [Go.Lib.size_eq]; simp [hexE_length]; omega
  have hs2 : (⟨(hexE lb).toArray⟩ : ByteArray).size ≤ 2097152 := by rw [Go.Lib.size_eq]; simp [hexE_length]; omega
  rw [show vs (hexE la) = .string ⟨(hexE la).toArray⟩ from rfl, show vs (hexE lb) = .string ⟨(hexE lb).toArray⟩ from rfl]
  generalize (⟨(hexE la).toArray⟩ : ByteArray) = sa at *
  generalize (⟨(hexE lb).toArray⟩ : ByteArray) = sb at *
  dsimp only
  go_wp2_with fail
  refine (Quote_walk _ la _ (HT.out.1.up (H2.out.2.trans H6.out)) (by exact HA.out.up (H2.out.2.trans H6.out)) (by omega)).mono ?_
  rintro e w7 ⟨rfl, u7⟩
  have H7 := Hid.of (H6.out.trans u7)
  clear u7 H6
  dsimp only
  go_wp2_with fail
  refine (Quote_walk _ lb _ (HT.out.1.up (H2.out.2.trans H7.out)) (by exact HB.out.up (H2.out.2.trans H7.out)) (by omega)).mono ?_
  rintro e w8 ⟨rfl, u8⟩
  have H8 := Hid.of (H7.out.trans u8)
  clear u8 H7
  rw [show vs (quo la) = .string ⟨(quo la).toArray⟩ from rfl, show vs (quo lb) = .string ⟨(quo lb).toArray⟩ from rfl]
  obtain ⟨p, hp⟩ : ∃ p : ByteArray, p = ⟨(quo la).toArray⟩ := ⟨_, rfl⟩
  obtain ⟨q, hq⟩ : ∃ q : ByteArray, q = ⟨(quo lb).toArray⟩ := ⟨_, rfl⟩
  rw [← hp, ← hq]
  have hp1 : p.size = (qs la).length + 2 := by rw [hp, Go.Lib.size_eq]; simp [quo]
  have hq1 : q.size = (qs lb).length + 2 := by rw [hq, Go.Lib.size_eq]; simp [quo]
  have hql : ∀ l, (qs l).length ≤ 4 * l.length := fun l => (qs_length l).2
  have hla := hql la
  have hlb := hql lb
  have HPQ := Hid.of (show (⟨(quo (la ++ lb)).toArray⟩ : ByteArray) = p.extract 0 (p.size - 1) ++ q.extract 1 q.size by
    apply ba_list
    rw [app_list', Go.Lib.extract_data, Go.Lib.extract_data, hp1, hq1, hp, hq]
    simp [quo, qs_append, List.take_append]
    rw [List.take_of_length_le (by omega)])
  have hp2 : 2 ≤ p.size := by omega
  have hp3 : p.size ≤ 4194306 := by omega
  have hq2 : 2 ≤ q.size := by omega
  have hq3 : q.size ≤ 4194306 := by omega
  clear hp hq hql hp1 hq1 hla hlb hs1 hs2

  have g1 : decide ((p.size : Int) < 2) = false := by simp; omega
  have g2 : decide ((q.size : Int) < 2) = false := by simp; omega
  have g3 : ¬ (p.size : Int) < 2 := by omega
  have g4 : ¬ (q.size : Int) < 2 := by omega
  dsimp only
  go_wp2_with fail
  have hw14 : IntKind.i64.wrap ((p.size : Int) - 1) = (p.size : Int) - 1 := by simp only [IntKind.wrap, IntKind.signed, IntKind.bits]; simp; omega
  refine wp_region_any (by kernel_rfl) ?_
  change wpAny _ _ _ _ _ _ _ (World.drew _)
  refine wpAny_take (i := 0) (v := .string p) rfl (by kernel_rfl) (by kernel_rfl) (by kernel_rfl) (fun _ _ _ h => h) (Or.inl ⟨by kernel_rfl, ?_⟩) ?_
  · intro _; go_simp
  simp only [Act.put, List.setIfInBounds_toArray, List.set_cons_zero, List.set_cons_succ]
  refine wpAny_take (i := 1) (v := .int .i64 (p.size : Int)) rfl (by kernel_rfl) (by kernel_rfl) (by kernel_rfl) (fun _ _ _ h => h) (Or.inl ⟨by kernel_rfl, ?_⟩) ?_
  · intro _; go_simp
  simp only [Act.put, List.setIfInBounds_toArray, List.set_cons_zero, List.set_cons_succ]
  refine wpAny_take (i := 2) (v := .bool false) rfl (by kernel_rfl) (by kernel_rfl) (by kernel_rfl) (fun _ _ _ h => h) (Or.inl ⟨by kernel_rfl, ?_⟩) ?_
  · intro _; go_simp
  simp only [Act.put, List.setIfInBounds_toArray, List.set_cons_zero, List.set_cons_succ]
  refine wpAny_take (i := 3) (v := .bool false) rfl (by kernel_rfl) (by kernel_rfl) (by kernel_rfl) (fun _ _ _ h => h) (Or.inl ⟨by kernel_rfl, ?_⟩) ?_
  · intro _; go_simp
  simp only [Act.put, List.setIfInBounds_toArray, List.set_cons_zero, List.set_cons_succ]
  refine wpAny_take (i := 4) (v := .string q) rfl (by kernel_rfl) (by kernel_rfl) (by kernel_rfl) (fun _ _ _ h => h) (Or.inl ⟨by kernel_rfl, ?_⟩) ?_
  · intro _; go_simp
  simp only [Act.put, List.setIfInBounds_toArray, List.set_cons_zero, List.set_cons_succ]
  refine wpAny_take (i := 5) (v := .int .i64 (q.size : Int)) rfl (by kernel_rfl) (by kernel_rfl) (by kernel_rfl) (fun _ _ _ h => h) (Or.inl ⟨by kernel_rfl, ?_⟩) ?_
  · intro _; go_simp
  simp only [Act.put, List.setIfInBounds_toArray, List.set_cons_zero, List.set_cons_succ]
  refine wpAny_take (i := 6) (v := .bool false) rfl (by kernel_rfl) (by kernel_rfl) (by kernel_rfl) (fun _ _ _ h => h) (Or.inl ⟨by kernel_rfl, ?_⟩) ?_
  · intro _; go_simp
  simp only [Act.put, List.setIfInBounds_toArray, List.set_cons_zero, List.set_cons_succ]
  refine wpAny_take (i := 7) (v := .bool false) rfl (by kernel_rfl) (by kernel_rfl) (by kernel_rfl) (fun _ _ _ h => h) (Or.inl ⟨by kernel_rfl, ?_⟩) ?_
  · intro _; go_simp
  simp only [Act.put, List.setIfInBounds_toArray, List.set_cons_zero, List.set_cons_succ]
  refine wpAny_take (i := 8) (v := .bool false) rfl (by kernel_rfl) (by kernel_rfl) (by kernel_rfl) (fun _ _ _ h => h) (Or.inl ⟨by kernel_rfl, ?_⟩) ?_
  · intro _; go_simp
  simp only [Act.put, List.setIfInBounds_toArray, List.set_cons_zero, List.set_cons_succ]
  refine wpAny_take (i := 9) (v := .slice a2 (la.length + lb.length) c2) rfl (by kernel_rfl) (by kernel_rfl) (by kernel_rfl) (fun _ _ _ h => h) (Or.inl ⟨by kernel_rfl, ?_⟩) ?_
  · intro _; go_simp
  simp only [Act.put, List.setIfInBounds_toArray, List.set_cons_zero, List.set_cons_succ]
  refine wpAny_take (i := 11) (v := .string p) rfl (by kernel_rfl) (by kernel_rfl) (by kernel_rfl) (fun _ _ _ h => h) (Or.inl ⟨by kernel_rfl, ?_⟩) ?_
  · intro _; go_simp
  simp only [Act.put, List.setIfInBounds_toArray, List.set_cons_zero, List.set_cons_succ]
  refine wpAny_take (i := 12) (v := .string p) rfl (by kernel_rfl) (by kernel_rfl) (by kernel_rfl) (fun _ _ _ h => h) (Or.inl ⟨by kernel_rfl, ?_⟩) ?_
  · intro _; go_simp
  simp only [Act.put, List.setIfInBounds_toArray, List.set_cons_zero, List.set_cons_succ]
  refine wpAny_take (i := 13) (v := .int .i64 (p.size : Int)) rfl (by kernel_rfl) (by kernel_rfl) (by kernel_rfl) (fun _ _ _ h => h) (Or.inl ⟨by kernel_rfl, ?_⟩) ?_
  · intro _; go_simp
  simp only [Act.put, List.setIfInBounds_toArray, List.set_cons_zero, List.set_cons_succ]
  refine wpAny_take (i := 14) (v := .int .i64 ((p.size : Int) - 1)) rfl (by kernel_rfl) (by kernel_rfl) (by kernel_rfl) (fun _ _ _ h => h) (Or.inl ⟨by kernel_rfl, ?_⟩) ?_
  · intro _; go_simp
  simp only [Act.put, List.setIfInBounds_toArray, List.set_cons_zero, List.set_cons_succ]
  refine wpAny_take (i := 15) (v := .string (p.extract 0 (p.size - 1))) rfl (by kernel_rfl) (by kernel_rfl) (by kernel_rfl) (fun _ _ _ h => h) (Or.inl ⟨by kernel_rfl, ?_⟩) ?_
  · intro _; go_simp; intro h; exact absurd (h (by omega)) (by omega)
  simp only [Act.put, List.setIfInBounds_toArray, List.set_cons_zero, List.set_cons_succ]
  refine wpAny_take (i := 16) (v := .string q) rfl (by kernel_rfl) (by kernel_rfl) (by kernel_rfl) (fun _ _ _ h => h) (Or.inl ⟨by kernel_rfl, ?_⟩) ?_
  · intro _; go_simp
  simp only [Act.put, List.setIfInBounds_toArray, List.set_cons_zero, List.set_cons_succ]
  refine wpAny_take (i := 17) (v := .string (q.extract 1 q.size)) rfl (by kernel_rfl) (by kernel_rfl) (by kernel_rfl) (fun _ _ _ h => h) (Or.inl ⟨by kernel_rfl, ?_⟩) ?_
  · intro _; go_simp; intro h; omega
  simp only [Act.put, List.setIfInBounds_toArray, List.set_cons_zero, List.set_cons_succ]
  refine wpAny_take (i := 18) (v := .string (p.extract 0 (p.size - 1) ++ q.extract 1 q.size)) rfl (by kernel_rfl) (by kernel_rfl) (by kernel_rfl) (fun _ _ _ h => h) (Or.inl ⟨by kernel_rfl, ?_⟩) ?_
  · intro _; go_simp; omega
  simp only [Act.put, List.setIfInBounds_toArray, List.set_cons_zero, List.set_cons_succ]
  refine wpAny_ready (rs := [10]) (by kernel_rfl) (by simp) ?_
  refine AllReady.cons (o := { dst := some 43, op := Go.Op.call { callee := Go.Callee.value (Go.Operand.func 10), args := #[Go.Operand.tmp 42], argTypes := #[22] }, type := 9, pos := "outright.go:149", after := #[{ on := 9, ground := Go.Ground.data }, { on := 8, ground := Go.Ground.chain }, { on := 8, ground := Go.Ground.guard }], guard := some (8, false) }) rfl (fun K hK => ?_) AllReady.nil
  go_simp
  refine (Quote_walk _ (la ++ lb) _ (HT.out.1.up (by exact (H2.out.2.trans H8.out).drew)) (H2.out.1.sl.up H8.out.drew) (by simp; omega)).mono ?_
  rintro e w9 ⟨rfl, u9⟩
  have H9 := Hid.of (show Up w2 w9 from (H8.out.drew).trans u9)
  clear u9 H8
  rw [show vs (quo (la ++ lb)) = .string (p.extract 0 (p.size - 1) ++ q.extract 1 q.size) by rw [← HPQ.out]]
  dsimp only
  refine hK _ _ ?_
  clear hK K
  refine wpAny_take (i := 19) (v := .bool false) rfl (by kernel_rfl) (by kernel_rfl) (by kernel_rfl) (fun _ _ _ h => h) (Or.inl ⟨by kernel_rfl, ?_⟩) ?_
  · intro _; go_simp
  simp only [Act.put, List.setIfInBounds_toArray, List.set_cons_zero, List.set_cons_succ]
  refine wpAny_take (i := 20) (v := .bool false) rfl (by kernel_rfl) (by kernel_rfl) (by kernel_rfl) (fun _ _ _ h => h) (Or.inl ⟨by kernel_rfl, ?_⟩) ?_
  · intro _; go_simp
  simp only [Act.put, List.setIfInBounds_toArray, List.set_cons_zero, List.set_cons_succ]
  refine wpAny_done (by kernel_rfl) ?_ _
  by_cases hck : c2 = la.length - la.length % 3
  · subst hck
    go_wp2_with fail
    refine (EncodeBase64_walk _ (la ++ lb) _ (HT.out.2.up (H2.out.2.trans H9.out)) (by exact H2.out.1.sl.up H9.out) (by simp; omega)).mono ?_
    rintro e w10 ⟨rfl, u10⟩
    have H10 := Hid.of (H9.out.trans u10)
    clear u10
    dsimp only
    go_wp2_with fail
    refine (EncodeBase64_walk _ (la.take (la.length - la.length % 3)) _ (HT.out.2.up (H2.out.2.trans H10.out)) (by exact (sl_take HA.out (by omega)).up (H2.out.2.trans H10.out)) (by simp; omega)).mono ?_
    rintro e w11 ⟨rfl, u11⟩
    have H11 := Hid.of (H10.out.trans u11)
    clear u11
    dsimp only
    go_wp2_with fail
    refine (EncodeBase64_walk _ ((la ++ lb).drop (la.length - la.length % 3)) _ (HT.out.2.up (H2.out.2.trans H11.out)) (by first | exact (sl_rest H2.out.1.sl (by simp; omega)).up H11.out | exact (sl_rest_in H2.out.1.sl rfl _).up H11.out) (by simp; omega)).mono ?_
    rintro e w12 ⟨rfl, u12⟩
    have H12 := Hid.of (H2.out.2.trans (H11.out.trans u12))
    clear u12
    rw [show vs (b64E (la ++ lb)) = .string (⟨(b64E (la.take (la.length - la.length % 3))).toArray⟩ ++ ⟨(b64E ((la ++ lb).drop (la.length - la.length % 3))).toArray⟩) by rw [← vs_app, ← b64_join]]
    have hs1 : (⟨(b64E (la.take (la.length - la.length % 3))).toArray⟩ : ByteArray).size ≤ 2097152 := by rw [Go.Lib.size_eq]; simp [b64E_length]; omega
    have hs2 : (⟨(b64E ((la ++ lb).drop (la.length - la.length % 3))).toArray⟩ : ByteArray).size ≤ 2097152 := by rw [Go.Lib.size_eq]; simp [b64E_length]; omega
    rw [show vs (b64E (la.take (la.length - la.length % 3))) = .string ⟨(b64E (la.take (la.length - la.length % 3))).toArray⟩ from rfl, show vs (b64E ((la ++ lb).drop (la.length - la.length % 3))) = .string ⟨(b64E ((la ++ lb).drop (la.length - la.length % 3))).toArray⟩ from rfl]
    generalize (⟨(b64E (la.take (la.length - la.length % 3))).toArray⟩ : ByteArray) = s1 at *
    generalize (⟨(b64E ((la ++ lb).drop (la.length - la.length % 3))).toArray⟩ : ByteArray) = s2 at *
    dsimp only
    go_wp2
    go_ret
    exact ⟨by simp, H12.out⟩
  ·
    go_wp2_with fail
    refine (EncodeBase64_walk _ (la ++ lb) _ (HT.out.2.up (H2.out.2.trans H9.out)) (by exact H2.out.1.sl.up H9.out) (by simp; omega)).mono ?_
    rintro e w10 ⟨rfl, u10⟩
    have H10 := Hid.of (H9.out.trans u10)
    clear u10
    dsimp only
    go_wp2_with fail
    refine (EncodeBase64_walk _ (la.take (la.length - la.length % 3)) _ (HT.out.2.up (H2.out.2.trans H10.out)) (by exact (sl_take HA.out (by omega)).up (H2.out.2.trans H10.out)) (by simp; omega)).mono ?_
    rintro e w11 ⟨rfl, u11⟩
    have H11 := Hid.of (H10.out.trans u11)
    clear u11
    dsimp only
    go_wp2_with fail
    refine (EncodeBase64_walk _ ((la ++ lb).drop (la.length - la.length % 3)) _ (HT.out.2.up (H2.out.2.trans H11.out)) (by first | exact (sl_rest H2.out.1.sl (by simp; omega)).up H11.out | exact (sl_rest_in H2.out.1.sl hck _).up H11.out) (by simp; omega)).mono ?_
    rintro e w12 ⟨rfl, u12⟩
    have H12 := Hid.of (H2.out.2.trans (H11.out.trans u12))
    clear u12
    rw [show vs (b64E (la ++ lb)) = .string (⟨(b64E (la.take (la.length - la.length % 3))).toArray⟩ ++ ⟨(b64E ((la ++ lb).drop (la.length - la.length % 3))).toArray⟩) by rw [← vs_app, ← b64_join]]
    have hs1 : (⟨(b64E (la.take (la.length - la.length % 3))).toArray⟩ : ByteArray).size ≤ 2097152 := by rw [Go.Lib.size_eq]; simp [b64E_length]; omega
    have hs2 : (⟨(b64E ((la ++ lb).drop (la.length - la.length % 3))).toArray⟩ : ByteArray).size ≤ 2097152 := by rw [Go.Lib.size_eq]; simp [b64E_length]; omega
    rw [show vs (b64E (la.take (la.length - la.length % 3))) = .string ⟨(b64E (la.take (la.length - la.length % 3))).toArray⟩ from rfl, show vs (b64E ((la ++ lb).drop (la.length - la.length % 3))) = .string ⟨(b64E ((la ++ lb).drop (la.length - la.length % 3))).toArray⟩ from rfl]
    generalize (⟨(b64E (la.take (la.length - la.length % 3))).toArray⟩ : ByteArray) = s1 at *
    generalize (⟨(b64E ((la ++ lb).drop (la.length - la.length % 3))).toArray⟩ : ByteArray) = s2 at *
    dsimp only
    go_wp2
    go_ret
    exact ⟨by simp, H12.out⟩
end Go.Proofs.YtdebcddbjkejmaaDoor
