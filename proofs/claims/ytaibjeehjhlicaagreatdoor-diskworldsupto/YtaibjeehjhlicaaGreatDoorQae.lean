import Derived.Test.YtaibjeehjhlicaaGreatDoorQad
import Derived.Test.YtaibjeehjhlicaaGreatDoorQbe
namespace Go.Proofs.YtaibjeehjhlicaaGreatDoor
open Go.RowKit Go.Shelf TextNum ModNum
theorem lcs_get : ∀ (lo : List LW) {i j : Nat} (hi : i < lo.length), j < 3 → (lcs lo)[3 * i + j]? = (lwc lo[i].tn lo[i].ds.length lo[i].ba lo[i].bk)[j]?
  | l :: r, 0, j, _, hj => by
    show (lwc l.tn l.ds.length l.ba l.bk ++ lcs r)[3 * 0 + j]? = _
    rw [Nat.mul_zero, Nat.zero_add, List.getElem?_append_left (by simpa [lwc] using hj)]
    rfl
  | l :: r, i + 1, j, hi, hj => by
    have ih := lcs_get r (i := i) (j := j) (by simpa using hi) hj
    show (lwc l.tn l.ds.length l.ba l.bk ++ lcs r)[3 * (i + 1) + j]? = _
    rw [List.getElem?_append_right (by simp [lwc]; omega), show 3 * (i + 1) + j - (lwc l.tn l.ds.length l.ba l.bk).length = 3 * i + j by simp [lwc]; omega, ih]
    rfl
theorem loose_cells {w : World} {B : Nat} {vo : Value} {lo : List LW} (h : w.ownsRow B 144 3 vo lo.length (lcs lo)) {i : Nat} (hi : i < lo.length) :
    ∃ g c, vo = .slice (some ⟨g, 0, none⟩) lo.length c ∧ lo.length ≤ c ∧ w.cell? ⟨g, 3 * i, none⟩ = some (.int .i64 lo[i].tn) ∧ w.cell? ⟨g, 3 * i + 1, none⟩ = some (.int .i64 (lo[i].ds.length : Int)) ∧
      w.cell? ⟨g, 3 * i + 2, none⟩ = some (.func (.func 97) #[] #[.pointer (some ⟨lo[i].ba, 0, none⟩), .pointer (some ⟨lo[i].bk, 0, none⟩)]) := by
  have hc := fun g hg => World.ownsRow.cells h (g := g) hg
  rcases h.2 with ⟨_, h0⟩ | ⟨g, cap, cur, rfl, _, _, hnc, _, _, _⟩
  · omega
  · refine ⟨g, cap, rfl, hnc, ?_, ?_, ?_⟩
    · have := hc g rfl (3 * i + 0) _ ((lcs_get lo hi (j := 0) (by omega)).trans rfl)
      rw [Addr.add_lit] at this
      simpa using this
    · have := hc g rfl (3 * i + 1) _ ((lcs_get lo hi (j := 1) (by omega)).trans rfl)
      rw [Addr.add_lit] at this
      simpa using this
    · have := hc g rfl (3 * i + 2) _ ((lcs_get lo hi (j := 2) (by omega)).trans rfl)
      rw [Addr.add_lit] at this
      simpa using this
/-- the lasting bytes were turned alone -/
theorem Inv.lasted {w w1 : World} {B D M F T : Nat} {s : DS} (h : Inv w B D M F T s) {l : LW} (hl : l ∈ s.lo) {v6 : Value} (o : Ow w1 B v6 (wr s.lb l.p l.ds)) (g : w.grownBy w1 s.vl.ownBlock) (f : Frs w s.vl v6) :
    Inv (w1.setCell ⟨F, 1, none⟩ v6) B D M F T { s with vl := v6, lb := wr s.lb l.p l.ds } ∧ Fr (Sd D F s) w (w1.setCell ⟨F, 1, none⟩ v6) := by
  have lvn := World.ownsRow.lt h.now
  have lvl := World.ownsRow.lt h.last
  have hnv : s.vn.ownBlock = none ∨ s.vn.ownBlock ≠ s.vl.ownBlock := by
    cases hq : s.vn.ownBlock with
    | none => exact .inl rfl
    | some k => exact .inr (fun e => h.apart k hq e.symm)
  have hol : s.vo.ownBlock = none ∨ s.vo.ownBlock ≠ s.vl.ownBlock := by
    cases hq : s.vo.ownBlock with
    | none => exact .inl rfl
    | some k => exact .inr (fun e => own_apart h.loose h.last (by decide) hq e.symm)
  have d1 := h.disk.by g (own_ne h.last h.disk (by decide))
  have f1 := h.file.by g (own_ne h.last h.file (by decide))
  have n1 := World.ownsRow.kept h.now g hnv
  have o1 := World.ownsRow.kept h.loose g hol
  have hM : s.vl.ownBlock ≠ some M := map_own h.map h.last
  have m1 : OM w1 M 1 (D1 F) := World.ownsMap.kept h.map g (fun e => hM e.symm)
  have gF := grown_at w1 F 1 v6
  have hl2 : ∀ l' ∈ s.lo, l'.vk.ownBlock = none ∨ l'.vk.ownBlock ≠ s.vl.ownBlock := fun l' hl' => by
    cases hq : l'.vk.ownBlock with
    | none => exact .inl rfl
    | some k => exact .inr (fun e => ((h.each l' hl').ap k hq).2 e.symm)
  refine ⟨⟨?_, h.low, ?_, d1.by gF (fun e => f1.ne d1 (by decide) (Option.some.inj e)), World.ownsMap.kept m1 gF (fun e => map_ne m1 f1 (Option.some.inj e)), f1.set 1 v6, World.ownsRow.kept n1 gF (.inr (own_ne n1 f1 (by decide))),
    World.ownsRow.kept o gF (.inr (own_ne o f1 (by decide))), ?_, World.ownsRow.kept o1 gF (.inr (own_ne o1 f1 (by decide))), ?_, h.room, h.nbl, ?_, h.num⟩, ?_⟩
  · obtain ⟨m, hm⟩ := h.ml
    refine ⟨m, gF.cell (g.cell hm (fun e => ?_)) (fun e => ?_)⟩
    · have h1 := (lvl _ e.symm).1
      have h2 := h.low.1
      have h3 : B ≤ 0 := h1
      omega
    · have h1 : 0 = F := Option.some.inj e
      have h2 := h.low
      omega
  · exact Nat.le_trans h.hB (Nat.le_trans g.size gF.size)
  · intro k hk e
    rcases f k e with h1 | h1
    · exact h.apart k hk h1
    · have := (lvn k hk).2; omega
  · intro l' hl'
    have he := h.each l' hl'
    have p1 := he.pa.by g (own_ne h.last he.pa (by decide))
    have p2 := he.pk.by g (own_ne h.last he.pk (by decide))
    have p3 := World.ownsRow.kept he.own g (hl2 l' hl')
    refine ⟨p1.by gF (fun e => f1.ne p1 (by decide) (Option.some.inj e)), p2.by gF (fun e => f1.ne p2 (by decide) (Option.some.inj e)), World.ownsRow.kept p3 gF (.inr (own_ne p3 f1 (by decide))), fun k hk => ⟨(he.ap k hk).1, fun e => ?_⟩, he.len⟩
    rcases f k e with h1 | h1
    · exact (he.ap k hk).2 h1
    · have := (World.ownsRow.lt he.own k hk).2; omega
  · show (wr s.lb l.p l.ds).length ≤ 1099511627776
    have hlen := (h.each l hl).len
    have hlb := h.lbl
    by_cases hd : l.ds = []
    · unfold wr
      rw [if_pos hd]; exact hlb
    · rw [wr_len _ _ _ hd]; omega
  · exact ((Fr.refl (Sd D F s) w).by g (fun k hk => .inl (.inr (.inr (.inr (.inl hk)))))).by gF (fun k hk => .inl (.inr (.inl (Option.some.inj hk).symm)))
theorem Inv.settled {w : World} {B D M F T : Nat} {s : DS} (h : Inv w B D M F T s) :
    Inv ((w.setCell ⟨D, 7, none⟩ (.int .i64 0)).drew.setCell ⟨F, 2, none⟩ (.slice none 0 0)) B D M F T { s with vo := .slice none 0 0, lo := [] } ∧ Fr (Sd D F s) w ((w.setCell ⟨D, 7, none⟩ (.int .i64 0)).drew.setCell ⟨F, 2, none⟩ (.slice none 0 0)) := by
  have g1 := grown_up (grown_at w D 7 (.int .i64 0)) (Up.refl _).drew
  have d1 := (h.disk.set 7 (.int .i64 0)).up (Up.refl _).drew
  generalize (w.setCell ⟨D, 7, none⟩ (.int .i64 0)).drew = w1 at *
  have f1 := h.file.by g1 (fun e => h.disk.ne h.file (by decide) (Option.some.inj e))
  have n1 := World.ownsRow.kept h.now g1 (.inr (own_ne h.now h.disk (by decide)))
  have l1 := World.ownsRow.kept h.last g1 (.inr (own_ne h.last h.disk (by decide)))
  have m1 : OM w1 M 1 (D1 F) := World.ownsMap.kept h.map g1 (fun e => map_ne h.map h.disk (Option.some.inj e))
  have gF := grown_at w1 F 2 (.slice none 0 0)
  have hnum := h.num
  refine ⟨⟨?_, h.low, Nat.le_trans h.hB (Nat.le_trans g1.size gF.size), d1.by gF (fun e => f1.ne d1 (by decide) (Option.some.inj e)), World.ownsMap.kept m1 gF (fun e => map_ne m1 f1 (Option.some.inj e)), f1.set 2 _, World.ownsRow.kept n1 gF (.inr (own_ne n1 f1 (by decide))),
    World.ownsRow.kept l1 gF (.inr (own_ne l1 f1 (by decide))), h.apart, World.ownsRow_nil _ _ _ _, fun l hl => (by cases hl), h.room, h.nbl, h.lbl, ?_⟩, ?_⟩
  · obtain ⟨m, hm⟩ := h.ml
    refine ⟨m, gF.cell (g1.cell hm (fun e => ?_)) (fun e => ?_)⟩
    · have h1 : 0 = D := Option.some.inj e
      have h2 := h.low
      omega
    · have h1 : 0 = F := Option.some.inj e
      have h2 := h.low
      omega
  · simp only [List.length_nil]
    omega
  · exact ((Fr.refl (Sd D F s) w).by g1 (fun k hk => .inl (.inl (Option.some.inj hk).symm))).by gF (fun k hk => .inl (.inr (.inl (Option.some.inj hk).symm)))
end Go.Proofs.YtaibjeehjhlicaaGreatDoor
namespace Go.Proofs.YtaibjeehjhlicaaGreatDoor
open Go.RowKit Go.Shelf TextNum ModNum
set_option maxRecDepth 100000 in
theorem keyS (s : ByteArray) (h : s.size ≤ 255) : keyOf Tryz.prog 9 (.string s) = some (.string s.data.toList) := by
  have h2 : s.size ≤ maxLen := by simp only [maxLen]; omega
  simp [keyOf, mapKey, Tryz.underlying9, h2]
/-- every name's value is a file's block -/
def Ptrs (D : DataW Unit) : Prop := ∀ k z, Maps.has D k = true → ∃ b : Nat, D.atKey k z = fd b
theorem nm_len {l : List UInt8} (h : isNm l = true) : l.length ≤ 255 := by
  unfold isNm at h
  simp only [Bool.and_eq_true, decide_eq_true_eq] at h
  exact h.1.1
abbrev kS (s : ByteArray) : Lit := .string s.data.toList
theorem rp_inv0' {v : Value} {ps : List MemPlace} (h : rp v = some (.lit (.bool false), ps)) : v = .pointer none := by
  unfold rp at h
  split at h
  · rfl
  · simp at h
  · cases h
theorem has_not {D : DataW Unit} {k : Lit} (z : DataW Unit) (h : Maps.has D k = false) : D.atKey k z = z := by
  cases D with
  | map es =>
    rw [Maps.has_eq] at h
    have hf : es.find? (fun p => p.1.sameKey k) = none := List.find?_eq_none.2 (fun x hx hk => List.any_eq_false.1 h x hx hk)
    simp only [DataW.atKey, hf]
  | _ => rfl
/-- find, of any name -/
def fnd (D : DataW Unit) (s : ByteArray) (b : Nat) : Value × Int := if isNm s.data.toList = false then (.pointer none, 120) else if Maps.has D (kS s) = true then (.pointer (some ⟨b, 0, none⟩), 0) else (.pointer none, 121)
set_option maxRecDepth 100000 in
set_option maxHeartbeats 1000000 in
theorem find_gen (D M n b : Nat) (s : ByteArray) (dm : DataW Unit) (x0 x1 x2 x4 x5 x6 x7 x8 x9 x10 x11 : Value) (w : World) (hG : ML w) (hA : At w D 85 [x0, x1, x2, .map (some M), x4, x5, x6, x7, x8, x9, x10, x11]) (hM : OM w M n dm) (hb : ∀ z, Maps.has dm (kS s) = true → dm.atKey (kS s) z = fd b) :
    Calls Tryz.prog 44 #[.pointer (some ⟨D, 0, none⟩), .string s] w fun e w' => e = .returned (.tuple #[(fnd dm s b).1, .int .i64 (fnd dm s b).2]) ∧ Up w w' := by
  have HN := Hid.of (isName_walk s w hG)
  have HA := Hid.of hA
  have HM := Hid.of hM
  have HB := Hid.of hb
  clear hA hM hG hb
  cases hn : isNm s.data.toList with
  | false =>
    have HR := Hid.of (show fnd dm s b = (.pointer none, 120) from if_pos hn)
    rw [hn] at HN
    clear hn
    go_enter Tryz.func44, Tryz.ntmps44
    go_wp2_with fail
    refine (HN.out).mono ?_
    rintro e w1 ⟨rfl, u1⟩
    have H1 := Hid.of (u1)
    have Hu1 := Hid.of u1
    clear u1
    dsimp only
    go_wp2
    go_ret2
    rw [HR.out]
    exact ⟨rfl, H1.out⟩
  | true =>
    have HK := Hid.of (keyS s (by rw [Go.Lib.size_eq]; exact nm_len hn))
    cases hh : Maps.has dm (kS s) with
    | false =>
      have HR := Hid.of (show fnd dm s b = (.pointer none, 121) by unfold fnd; rw [if_neg (by rw [hn]; decide), if_neg (by rw [hh]; decide)])
      have HZ := Hid.of (has_not (.lit (.bool false)) hh)
      have HH := Hid.of hh
      rw [hn] at HN
      clear hn hh
      go_enter Tryz.func44, Tryz.ntmps44
      go_wp2_with fail
      refine HN.out.mono ?_
      rintro e w1 ⟨rfl, u1⟩
      have HU1 := Hid.of u1
      have hc := (HA.out.up u1).cell (i := 3) rfl
      have HM1 := Hid.of (HM.out.up u1)
      clear u1 HM HA
      dsimp only
      go_wp2_with (with_reducible show wpList _ _ _ ({ dst := _, op := Op.lookup 81 _ _ _, type := _, pos := _, after := _, guard := _ } :: _) _ _; refine Shut.out ?_)
      show wpList _ _ _ _ _ _
      refine wpList_lookup_own_ok _ rfl _ _ 81 rfl 9 88 (Maps.string_keyed Tryz.underlying9) Tryz.underlying81 rp (Tryz.zeroValue88 _) (.lit (.bool false)) [] rfl M n dm rfl HM1.out _ (kS s) rfl HK.out ?_
      intro v ps hv
      rw [HZ.out] at hv
      obtain rfl := rp_inv0' hv
      rw [HH.out]
      clear hv
      simp only [Act.put, List.setIfInBounds_toArray, List.set_cons_zero, List.set_cons_succ]
      go_wp2
      go_ret2
      rw [HR.out]
      exact ⟨rfl, HU1.out⟩
    | true =>
      have HR := Hid.of (show fnd dm s b = (.pointer (some ⟨b, 0, none⟩), 0) by unfold fnd; rw [if_neg (by rw [hn]; decide), if_pos hh])
      have HZ := Hid.of (HB.out (.lit (.bool false)) hh)
      have HH := Hid.of hh
      rw [hn] at HN
      clear hn hh
      go_enter Tryz.func44, Tryz.ntmps44
      go_wp2_with fail
      refine HN.out.mono ?_
      rintro e w1 ⟨rfl, u1⟩
      have HU1 := Hid.of u1
      have hc := (HA.out.up u1).cell (i := 3) rfl
      have HM1 := Hid.of (HM.out.up u1)
      clear u1 HM HA
      dsimp only
      go_wp2_with (with_reducible show wpList _ _ _ ({ dst := _, op := Op.lookup 81 _ _ _, type := _, pos := _, after := _, guard := _ } :: _) _ _; refine Shut.out ?_)
      show wpList _ _ _ _ _ _
      refine wpList_lookup_own_ok _ rfl _ _ 81 rfl 9 88 (Maps.string_keyed Tryz.underlying9) Tryz.underlying81 rp (Tryz.zeroValue88 _) (.lit (.bool false)) [] rfl M n dm rfl HM1.out _ (kS s) rfl HK.out ?_
      intro v ps hv
      rw [HZ.out] at hv
      obtain rfl := rp_inv hv
      rw [HH.out]
      clear hv
      simp only [Act.put, List.setIfInBounds_toArray, List.set_cons_zero, List.set_cons_succ]
      go_wp2
      go_ret2
      rw [HR.out]
      exact ⟨rfl, HU1.out⟩
set_option maxRecDepth 100000 in
set_option maxHeartbeats 1000000 in
theorem Create11_gen (M F b1 b2 n : Nat) (s : ByteArray) (dm : DataW Unit) (w : World) (hs : s.size ≤ 255) (hn : n < maxLen) (hM : OM w M n dm) (h1 : At w b1 88 [.pointer (some ⟨F, 0, none⟩)]) (h2 : At w b2 9 [.string s]) :
    Calls Tryz.prog 55 #[.map (some M), .pointer (some ⟨b1, 0, none⟩), .pointer (some ⟨b2, 0, none⟩)] w fun e w' => e = .returned (.tuple #[]) ∧ OM w' M (n + 1) (dm.put (kS s) (fd F)) ∧ w.grownBy w' (some M) := by
  have c1 := h1.cell (i := 0) rfl
  have c2 := h2.cell (i := 0) rfl
  have HM := Hid.of hM
  have HK := Hid.of (keyS s hs)
  clear hM h1 h2 hs
  go_enter Tryz.func55, Tryz.ntmps55
  go_wp2_with (with_reducible show wpList _ _ _ ({ dst := _, op := Op.mapUpdate 81 _ _ _, type := _, pos := _, after := _, guard := _ } :: _) _ _; refine Shut.out ?_)
  show wpList _ _ _ _ _ _
  refine wpList_mapUpdate_own _ rfl _ _ _ 81 rfl 9 88 (Maps.string_keyed Tryz.underlying9) Tryz.underlying81 rp M n dm rfl HM.out hn _ _ (kS s) rfl rfl HK.out (fd F) [] rfl ?_
  intro w1 o1 g1
  have HO := Hid.of o1
  have HG := Hid.of g1
  clear o1 g1
  simp only [Act.put]
  go_wp2
  go_end0
  exact ⟨rfl, HO.out, HG.out⟩
set_option maxRecDepth 100000 in
set_option maxHeartbeats 1000000 in
theorem Remove11_gen (M b1 n : Nat) (s : ByteArray) (dm : DataW Unit) (w : World) (hs : s.size ≤ 255) (hM : OM w M n dm) (h1 : At w b1 9 [.string s]) :
    Calls Tryz.prog 100 #[.map (some M), .pointer (some ⟨b1, 0, none⟩)] w fun e w' => e = .returned (.tuple #[]) ∧ OM w' M n (dm.del (kS s)) ∧ w.grownBy w' (some M) := by
  have c1 := h1.cell (i := 0) rfl
  have HM := Hid.of hM
  have HK := Hid.of (keyS s hs)
  clear hM h1 hs
  go_enter Tryz.func100, Tryz.ntmps100
  go_wp2_with (with_reducible show wpList _ _ _ ({ dst := _, op := Op.call { callee := Callee.builtin Builtin.delete, args := _, argTypes := _ }, type := _, pos := _, after := _, guard := _ } :: _) _ _; refine Shut.out ?_)
  show wpList _ _ _ _ _ _
  refine wpList_delete_own _ rfl _ _ 81 9 rfl 88 (Maps.string_keyed Tryz.underlying9) Tryz.underlying81 rp M n dm rfl HM.out _ (kS s) rfl HK.out ?_
  intro w1 o1 g1
  have HO := Hid.of o1
  have HG := Hid.of g1.grown
  clear o1 g1
  simp only [Act.put]
  go_wp2
  go_end0
  exact ⟨rfl, HO.out, HG.out⟩
end Go.Proofs.YtaibjeehjhlicaaGreatDoor
