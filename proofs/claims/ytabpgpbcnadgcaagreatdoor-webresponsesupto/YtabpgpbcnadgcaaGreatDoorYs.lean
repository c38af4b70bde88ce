import Derived.Test.YtabpgpbcnadgcaaGreatDoorYr
import Derived.Lib.CutLaws
import Derived.Lib.IndexLaws
import Derived.Lib.IndexBytes
namespace Go.Proofs.YtabpgpbcnadgcaaGreatDoor
open Go.RowKit Go.Shelf TextNum
set_option maxRecDepth 100000 in
theorem slCut_walk (s : ByteArray) (hs : s.size ≤ 4398046511104) (c : UInt8) (w : World) : Calls Tryz.prog 173 #[.string s, .string ⟨#[c]⟩] w fun e w' => e = .returned (.tuple #[.string ⟨(Go.Lib.cut s.data.toList [c]).1.toArray⟩, .string ⟨(Go.Lib.cut s.data.toList [c]).2.1.toArray⟩, .bool (Go.Lib.cut s.data.toList [c]).2.2]) ∧ ∃ n, w' = w.drewN n := by
  have hix : Go.Lib.indexB s ⟨#[c]⟩ = Go.Lib.indexByte s.data.toList c := Go.Lib.index_one _ _
  have L : Lays.n219 Tryz.prog Tryz.lays145_ren := { Tryz.lays145 with }
  rcases Go.Lib.indexB_cases s ⟨#[c]⟩ with hx | ⟨i, hx, hroom⟩
  · obtain ⟨e1, e2, e3⟩ := Go.Lib.cutB_miss s ⟨#[c]⟩ hx
    rw [hix] at hx
    rw [show [c] = (⟨#[c]⟩ : ByteArray).data.toList from rfl, e1, e2, e3]
    clear e1 e2 e3 hix
    go_enter Tryz.func173, Tryz.ntmps173
    go_wp2_with fail
    refine (Any.stringslite_Index_one L s c w).mono ?_
    rintro e w' ⟨rfl, rfl⟩
    rw [hx]
    dsimp only
    go_wp2
    go_ret3
    exact ⟨rfl, 0, rfl⟩
  · obtain ⟨e1, e2, e3⟩ := Go.Lib.cutB_hit s ⟨#[c]⟩ i hx
    rw [hix] at hx
    rw [show [c] = (⟨#[c]⟩ : ByteArray).data.toList from rfl, e1, e2, e3]
    have hr : i + 1 ≤ s.size := hroom
    have c1 : (0 : Int) ≤ ↑i := by omega
    have c2 : (↑i : Int) ≤ ↑s.size := by omega
    have c3 : (0 : Int) ≤ ↑i + 1 := by omega
    have c4 : (↑i + 1 : Int) ≤ ↑s.size := by omega
    have c5 : IntKind.i64.wrap ((i : Int) + 1) = (i : Int) + 1 := by
      simp only [IntKind.wrap, IntKind.signed, IntKind.bits]
      simp
      omega
    have mixed := L.mixed
    clear e1 e2 e3 hix hroom
    go_enter Tryz.func173, Tryz.ntmps173
    go_wp2_with fail
    refine (Any.stringslite_Index_one L s c w).mono ?_
    rintro e w' ⟨rfl, rfl⟩
    rw [hx]
    dsimp only
    go_wp2
    go_region_o
    go_wp2
    go_ret3
    exact ⟨rfl, 1, rfl⟩
set_option maxRecDepth 100000 in
theorem Cut1_walk (s : ByteArray) (hs : s.size ≤ 4398046511104) (c : UInt8) (w : World) : Calls Tryz.prog 140 #[.string s, .string ⟨#[c]⟩] w fun e w' => e = .returned (.tuple #[.string ⟨(Go.Lib.cut s.data.toList [c]).1.toArray⟩, .string ⟨(Go.Lib.cut s.data.toList [c]).2.1.toArray⟩, .bool (Go.Lib.cut s.data.toList [c]).2.2]) ∧ ∃ n, w' = w.drewN n := by
  go_enter Tryz.func140, Tryz.ntmps140
  go_wp2_with fail
  refine (slCut_walk s hs c w).mono ?_
  rintro e w' ⟨rfl, n, rfl⟩
  dsimp only
  go_wp2
  go_ret3
  exact ⟨rfl, n, rfl⟩
theorem vs_data' (s : ByteArray) : vs s.data.toList = .string s := by cases s; rfl
def c1 (k : UInt8) (l : List UInt8) : List UInt8 := (Go.Lib.cut l [k]).1
def c2 (k : UInt8) (l : List UInt8) : List UInt8 := (Go.Lib.cut l [k]).2.1
theorem c_len (k : UInt8) (l : List UInt8) : (c1 k l).length ≤ l.length ∧ (c2 k l).length ≤ l.length := by
  unfold c1 c2 Go.Lib.cut
  split <;> simp <;> omega
theorem Cut_up (s : ByteArray) (hs : s.size ≤ 4398046511104) (c : UInt8) (w : World) : Calls Tryz.prog 140 #[.string s, .string ⟨#[c]⟩] w fun e w' => e = .returned (.tuple #[vs (c1 c s.data.toList), vs (c2 c s.data.toList), .bool (Go.Lib.cut s.data.toList [c]).2.2]) ∧ Up w w' := by
  refine (Cut1_walk s hs c w).mono ?_
  rintro e w' ⟨rfl, n, rfl⟩
  exact ⟨rfl, (Up.refl w).drewN n⟩
/-- a request without anything -/
def z6 : List Value := [.string ⟨#[]⟩, .string ⟨#[]⟩, .int .i64 0, .slice none 0 0, .slice none 0 0, .bool false]
/-- a request's first line -/
def rql (l : List UInt8) : Er (List UInt8 × List UInt8 × Int) :=
  if (tok (c1 32 l) && (tgt (c1 32 (c2 32 l)) && vok (c2 32 (c2 32 l)))) = false then .error 3
  else if mtk ⟨(c1 32 l).toArray⟩ = false then .error 10
  else match mno ⟨(c2 32 (c2 32 l)).toArray⟩ with
    | .error k => .error k
    | .ok n => .ok (c1 32 l, c1 32 (c2 32 l), n)
def rlR (ad : Nat → Addr) : Er (List UInt8 × List UInt8 × Int) → Value
  | .error k => .tuple #[.agg z6.toArray, ev (ad k)]
  | .ok (m, t, n) => .tuple #[.agg #[vs m, vs t, .int .i64 n, .slice none 0 0, .slice none 0 0, .bool false], .nilIface]
theorem mno_er {s : ByteArray} {k : Nat} (h : mno s = .error k) : k = 4 := by
  unfold mno at h
  split at h
  · cases h
  · split at h
    · cases h
    · injection h with h; exact h.symm
set_option maxRecDepth 100000 in
set_option maxHeartbeats 1000000 in
theorem readRequestLine_walk (ad : Nat → Addr) (s : ByteArray) (hs : s.size ≤ 1048576) (w : World) (h : GE w ad) (hN : GN w) (hM : w.rangeAt 14 0 mtC) : Calls Tryz.prog 116 #[.string s] w fun e w' => e = .returned (rlR ad (rql s.data.toList)) ∧ Up w w' := by
  have HG := Hid.of h
  have HNN := Hid.of hN
  have HMM := Hid.of hM
  clear h hN hM
  have HA0 := Hid.of (at_new w 48 z6)
  have HU0 := Hid.of ((Up.refl w).alloc (.cells z6.toArray 48))
  obtain ⟨L, hL⟩ : ∃ L, s.data.toList = L := ⟨_, rfl⟩
  have hC1 := fun w => Cut_up s (by omega) 32 w
  have hl1 := c_len 32 L
  have hl2 := c_len 32 (c2 32 L)
  have hLs : L.length = s.size := by rw [← hL, ← Go.Lib.size_eq]
  rw [hL] at hC1 ⊢
  clear hL
  obtain ⟨rv, hrv⟩ : ∃ rv, rlR ad (rql L) = rv := ⟨_, rfl⟩
  have HR := Hid.of hrv
  rw [hrv]
  clear hrv
  unfold rql at HR
  obtain ⟨m, hm⟩ : ∃ m : ByteArray, (⟨(c1 32 L).toArray⟩ : ByteArray) = m := ⟨_, rfl⟩
  obtain ⟨r, hr⟩ : ∃ r : ByteArray, (⟨(c2 32 L).toArray⟩ : ByteArray) = r := ⟨_, rfl⟩
  have hmd : c1 32 L = m.data.toList := by rw [← hm]
  have hrd : c2 32 L = r.data.toList := by rw [← hr]
  have hms : m.size ≤ 1048576 := by rw [Go.Lib.size_eq, ← hmd]; omega
  have hrs : r.size ≤ 1048576 := by rw [Go.Lib.size_eq, ← hrd]; omega
  have hC2 := fun w => Cut_up r (by omega) 32 w
  rw [hmd, vs_data', hrd, vs_data'] at hC1
  rw [hm, hmd, hrd] at HR
  rw [hrd] at hl2
  obtain ⟨t, ht⟩ : ∃ t : ByteArray, (⟨(c1 32 r.data.toList).toArray⟩ : ByteArray) = t := ⟨_, rfl⟩
  obtain ⟨v, hv⟩ : ∃ v : ByteArray, (⟨(c2 32 r.data.toList).toArray⟩ : ByteArray) = v := ⟨_, rfl⟩
  have htd : c1 32 r.data.toList = t.data.toList := by rw [← ht]
  have hvd : c2 32 r.data.toList = v.data.toList := by rw [← hv]
  have hts : t.size ≤ 1048576 := by rw [Go.Lib.size_eq, ← htd]; rw [Go.Lib.size_eq] at hrs; omega
  have hvs : v.size ≤ 1048576 := by rw [Go.Lib.size_eq, ← hvd]; rw [Go.Lib.size_eq] at hrs; omega
  rw [htd, vs_data', hvd, vs_data'] at hC2
  rw [hv, htd, hvd] at HR
  generalize (Go.Lib.cut L [32]).2.2 = bb1 at *
  generalize (Go.Lib.cut r.data.toList [32]).2.2 = bb2 at *
  have HC1 := Hid.of hC1
  have HC2 := Hid.of hC2
  clear hC1 hC2 hm hr ht hv hmd hrd htd hvd hl1 hl2 hLs
  go_enter Tryz.func116, Tryz.ntmps116
  go_wp2_with fail
  change Calls _ _ _ (w.alloc (.cells z6.toArray 48)) _
  generalize w.alloc (.cells z6.toArray 48) = w1 at *
  refine (HC1.out w1).mono ?_
  rintro e w2 ⟨rfl, h9⟩
  have HU2 := Hid.of (HU0.out.trans h9)
  have HA2 := Hid.of (HA0.out.up h9)
  clear h9
  dsimp only
  go_wp2_with fail
  refine (HC2.out w2).mono ?_
  rintro e w3 ⟨rfl, h9⟩
  have HU3 := Hid.of (HU2.out.trans h9)
  have HA3 := Hid.of (HA2.out.up h9)
  clear h9
  dsimp only
  have HTk := Hid.of (isToken_walk m (by omega) w3)
  cases hk : tok m.data.toList with
  | false =>
    rw [hk] at HTk HR
    have HE := Hid.of (show rv = rlR ad (.error 3) by rw [← HR.out]; rfl)
    go_wp2_with fail
    refine (HTk.out).mono ?_
    rintro e w4 ⟨rfl, h9⟩
    have HU4 := Hid.of (HU3.out.trans h9)
    have HA4 := Hid.of (HA3.out.up h9)
    clear h9
    dsimp only
    go_wp2
    refine wp_region_held_drew (S := fun w2 => (∃ cs, cs.length = 6 ∧ At w2 w.heap.size 48 cs) ∧ GE w2 ad ∧ Up w w2) (by kernel_rfl) ⟨⟨z6, rfl, HA4.out.up (Up.refl _).drew⟩, HG.out.up HU4.out.drew, HU4.out.drew⟩ (fun hS => ?_)
    refine wpAnyH_take (i := 0) (oi := { dst := some 37, op := Go.Op.build 48 #[], type := 48, pos := "start.go:55", after := #[], guard := none }) (v := .agg z6.toArray) rfl (by kernel_rfl) (by kernel_rfl) (by kernel_rfl) (fun _ _ _ h => h) (Or.inl ⟨by kernel_rfl, ?_⟩) hS ?_
    · intro w5 hSw
      clear hSw hS
      go_simp
      rfl
    simp only [Act.put, List.setIfInBounds_toArray, List.set_cons_zero, List.set_cons_succ]
    refine wpAnyH_take (i := 1) (oi := { dst := some 38, op := Go.Op.load 106 (Go.Operand.global 3), type := 106, pos := "start.go:55", after := #[{ on := 2, ground := Go.Ground.gcOnly Go.Departure.lateStores }], guard := none }) (v := ev (ad 3)) rfl (by kernel_rfl) (by kernel_rfl) (by kernel_rfl) (fun _ _ _ h => h) (Or.inl ⟨by kernel_rfl, ?_⟩) hS ?_
    · intro w5 hSw
      have hgl : w5.cell? ⟨3, 0, none⟩ = _ := hSw.2.1.gl 3 (by decide)
      clear hSw hS
      go_simp
    simp only [Act.put, List.setIfInBounds_toArray, List.set_cons_zero, List.set_cons_succ]
    refine wpAnyH_ready (rs := [2]) (by kernel_rfl) (by simp) ?_
    refine AllReadyH.cons (o := { dst := none, op := Go.Op.store 48 (Go.Operand.tmp 2) (Go.Operand.tmp 37), type := 0, pos := "start.go:55", after := #[{ on := 0, ground := Go.Ground.data }, { on := 0, ground := Go.Ground.phase }, { on := 1, ground := Go.Ground.textOnly Go.Departure.lateStores }], guard := none }) rfl (fun K hK => oper_of_list ?_) AllReadyH.nil
    obtain ⟨⟨cs, hcl, hcs2⟩, hS1, hS2⟩ := hS
    refine wpList_store_at rfl 48 _ _ rfl w.heap.size hcs2 z6 rfl rfl hcl.symm (by kernel_rfl) (by kernel_rfl) ?_
    intro w8 hA8 hg8
    have HA8 := Hid.of hA8
    have HU8 := Hid.of (hS2.by hg8 (fun g hg => by have := Option.some.inj hg; omega))
    clear hA8 hg8 hcs2 hS2 hS1
    refine hK.out _ _ ⟨⟨_, rfl, HA8.out⟩, HG.out.up HU8.out, HU8.out⟩ (fun hS => ?_)
    clear hK K
    refine wpAnyH_take (i := 3) (oi := { dst := some 3, op := Go.Op.assign (Go.Operand.tmp 38), type := 106, pos := "start.go:55", after := #[{ on := 1, ground := Go.Ground.data }, { on := 2, ground := Go.Ground.chain }, { on := 0, ground := Go.Ground.phase }, { on := 1, ground := Go.Ground.phase }, { on := 2, ground := Go.Ground.phase }], guard := none }) (v := ev (ad 3)) rfl (by kernel_rfl) (by kernel_rfl) (by kernel_rfl) (fun _ _ _ h => h) (Or.inl ⟨by kernel_rfl, ?_⟩) hS ?_
    · intro w5 hSw
      clear hSw hS
      go_simp
    simp only [Act.put, List.setIfInBounds_toArray, List.set_cons_zero, List.set_cons_succ]
    clear hS
    refine wpAnyH_done (by kernel_rfl) ?_ _
    repeat go_step
    refine bodyPost_ret (result_cell_tmp Tryz.results116 _ _ w.heap.size z6 _ rfl rfl HA8.out.range Tryz.underlying48 rfl (by kernel_rfl)) rfl ?_
    rw [HE.out]
    exact ⟨rfl, HU8.out⟩
  | true =>
    rw [hk] at HTk HR
    go_wp2_with fail
    refine (HTk.out).mono ?_
    rintro e w4 ⟨rfl, h9⟩
    have HU4 := Hid.of (HU3.out.trans h9)
    have HA4 := Hid.of (HA3.out.up h9)
    clear h9
    dsimp only
    have HTg := Hid.of (isTarget_walk t (by omega) w4)
    cases hg : tgt t.data.toList with
    | false =>
      rw [hg] at HTg HR
      have HE := Hid.of (show rv = rlR ad (.error 3) by rw [← HR.out]; rfl)
      go_wp2_with fail
      refine (HTg.out).mono ?_
      rintro e w5 ⟨rfl, h9⟩
      have HU5 := Hid.of (HU4.out.trans h9)
      have HA5 := Hid.of (HA4.out.up h9)
      clear h9
      dsimp only
      go_wp2
      refine wp_region_held_drew (S := fun w2 => (∃ cs, cs.length = 6 ∧ At w2 w.heap.size 48 cs) ∧ GE w2 ad ∧ Up w w2) (by kernel_rfl) ⟨⟨z6, rfl, HA5.out.up (Up.refl _).drew⟩, HG.out.up HU5.out.drew, HU5.out.drew⟩ (fun hS => ?_)
      refine wpAnyH_take (i := 0) (oi := { dst := some 37, op := Go.Op.build 48 #[], type := 48, pos := "start.go:55", after := #[], guard := none }) (v := .agg z6.toArray) rfl (by kernel_rfl) (by kernel_rfl) (by kernel_rfl) (fun _ _ _ h => h) (Or.inl ⟨by kernel_rfl, ?_⟩) hS ?_
      · intro w5 hSw
        clear hSw hS
        go_simp
        rfl
      simp only [Act.put, List.setIfInBounds_toArray, List.set_cons_zero, List.set_cons_succ]
      refine wpAnyH_take (i := 1) (oi := { dst := some 38, op := Go.Op.load 106 (Go.Operand.global 3), type := 106, pos := "start.go:55", after := #[{ on := 2, ground := Go.Ground.gcOnly Go.Departure.lateStores }], guard := none }) (v := ev (ad 3)) rfl (by kernel_rfl) (by kernel_rfl) (by kernel_rfl) (fun _ _ _ h => h) (Or.inl ⟨by kernel_rfl, ?_⟩) hS ?_
      · intro w5 hSw
        have hgl : w5.cell? ⟨3, 0, none⟩ = _ := hSw.2.1.gl 3 (by decide)
        clear hSw hS
        go_simp
      simp only [Act.put, List.setIfInBounds_toArray, List.set_cons_zero, List.set_cons_succ]
      refine wpAnyH_ready (rs := [2]) (by kernel_rfl) (by simp) ?_
      refine AllReadyH.cons (o := { dst := none, op := Go.Op.store 48 (Go.Operand.tmp 2) (Go.Operand.tmp 37), type := 0, pos := "start.go:55", after := #[{ on := 0, ground := Go.Ground.data }, { on := 0, ground := Go.Ground.phase }, { on := 1, ground := Go.Ground.textOnly Go.Departure.lateStores }], guard := none }) rfl (fun K hK => oper_of_list ?_) AllReadyH.nil
      obtain ⟨⟨cs, hcl, hcs2⟩, hS1, hS2⟩ := hS
      refine wpList_store_at rfl 48 _ _ rfl w.heap.size hcs2 z6 rfl rfl hcl.symm (by kernel_rfl) (by kernel_rfl) ?_
      intro w8 hA8 hg8
      have HA8 := Hid.of hA8
      have HU8 := Hid.of (hS2.by hg8 (fun g hg => by have := Option.some.inj hg; omega))
      clear hA8 hg8 hcs2 hS2 hS1
      refine hK.out _ _ ⟨⟨_, rfl, HA8.out⟩, HG.out.up HU8.out, HU8.out⟩ (fun hS => ?_)
      clear hK K
      refine wpAnyH_take (i := 3) (oi := { dst := some 3, op := Go.Op.assign (Go.Operand.tmp 38), type := 106, pos := "start.go:55", after := #[{ on := 1, ground := Go.Ground.data }, { on := 2, ground := Go.Ground.chain }, { on := 0, ground := Go.Ground.phase }, { on := 1, ground := Go.Ground.phase }, { on := 2, ground := Go.Ground.phase }], guard := none }) (v := ev (ad 3)) rfl (by kernel_rfl) (by kernel_rfl) (by kernel_rfl) (fun _ _ _ h => h) (Or.inl ⟨by kernel_rfl, ?_⟩) hS ?_
      · intro w5 hSw
        clear hSw hS
        go_simp
      simp only [Act.put, List.setIfInBounds_toArray, List.set_cons_zero, List.set_cons_succ]
      clear hS
      refine wpAnyH_done (by kernel_rfl) ?_ _
      repeat go_step
      refine bodyPost_ret (result_cell_tmp Tryz.results116 _ _ w.heap.size z6 _ rfl rfl HA8.out.range Tryz.underlying48 rfl (by kernel_rfl)) rfl ?_
      rw [HE.out]
      exact ⟨rfl, HU8.out⟩
    | true =>
      rw [hg] at HTg HR
      go_wp2_with fail
      refine (HTg.out).mono ?_
      rintro e w5 ⟨rfl, h9⟩
      have HU5 := Hid.of (HU4.out.trans h9)
      have HA5 := Hid.of (HA4.out.up h9)
      clear h9
      dsimp only
      have HVk := Hid.of (isVersion_walk v w5)
      cases hvk : vok v.data.toList with
      | false =>
        rw [hvk] at HVk HR
        have HE := Hid.of (show rv = rlR ad (.error 3) by rw [← HR.out]; rfl)
        go_wp2_with fail
        refine HVk.out.mono ?_
        rintro e w9 ⟨rfl, h9⟩
        obtain rfl := h9.symm
        clear h9
        dsimp only
        go_wp2
        refine wp_region_held_drew (S := fun w2 => (∃ cs, cs.length = 6 ∧ At w2 w.heap.size 48 cs) ∧ GE w2 ad ∧ Up w w2) (by kernel_rfl) ⟨⟨z6, rfl, HA5.out.up (Up.refl _).drew⟩, HG.out.up HU5.out.drew, HU5.out.drew⟩ (fun hS => ?_)
        refine wpAnyH_take (i := 0) (oi := { dst := some 37, op := Go.Op.build 48 #[], type := 48, pos := "start.go:55", after := #[], guard := none }) (v := .agg z6.toArray) rfl (by kernel_rfl) (by kernel_rfl) (by kernel_rfl) (fun _ _ _ h => h) (Or.inl ⟨by kernel_rfl, ?_⟩) hS ?_
        · intro w5 hSw
          clear hSw hS
          go_simp
          rfl
        simp only [Act.put, List.setIfInBounds_toArray, List.set_cons_zero, List.set_cons_succ]
        refine wpAnyH_take (i := 1) (oi := { dst := some 38, op := Go.Op.load 106 (Go.Operand.global 3), type := 106, pos := "start.go:55", after := #[{ on := 2, ground := Go.Ground.gcOnly Go.Departure.lateStores }], guard := none }) (v := ev (ad 3)) rfl (by kernel_rfl) (by kernel_rfl) (by kernel_rfl) (fun _ _ _ h => h) (Or.inl ⟨by kernel_rfl, ?_⟩) hS ?_
        · intro w5 hSw
          have hgl : w5.cell? ⟨3, 0, none⟩ = _ := hSw.2.1.gl 3 (by decide)
          clear hSw hS
          go_simp
        simp only [Act.put, List.setIfInBounds_toArray, List.set_cons_zero, List.set_cons_succ]
        refine wpAnyH_ready (rs := [2]) (by kernel_rfl) (by simp) ?_
        refine AllReadyH.cons (o := { dst := none, op := Go.Op.store 48 (Go.Operand.tmp 2) (Go.Operand.tmp 37), type := 0, pos := "start.go:55", after := #[{ on := 0, ground := Go.Ground.data }, { on := 0, ground := Go.Ground.phase }, { on := 1, ground := Go.Ground.textOnly Go.Departure.lateStores }], guard := none }) rfl (fun K hK => oper_of_list ?_) AllReadyH.nil
        obtain ⟨⟨cs, hcl, hcs2⟩, hS1, hS2⟩ := hS
        refine wpList_store_at rfl 48 _ _ rfl w.heap.size hcs2 z6 rfl rfl hcl.symm (by kernel_rfl) (by kernel_rfl) ?_
        intro w8 hA8 hg8
        have HA8 := Hid.of hA8
        have HU8 := Hid.of (hS2.by hg8 (fun g hg => by have := Option.some.inj hg; omega))
        clear hA8 hg8 hcs2 hS2 hS1
        refine hK.out _ _ ⟨⟨_, rfl, HA8.out⟩, HG.out.up HU8.out, HU8.out⟩ (fun hS => ?_)
        clear hK K
        refine wpAnyH_take (i := 3) (oi := { dst := some 3, op := Go.Op.assign (Go.Operand.tmp 38), type := 106, pos := "start.go:55", after := #[{ on := 1, ground := Go.Ground.data }, { on := 2, ground := Go.Ground.chain }, { on := 0, ground := Go.Ground.phase }, { on := 1, ground := Go.Ground.phase }, { on := 2, ground := Go.Ground.phase }], guard := none }) (v := ev (ad 3)) rfl (by kernel_rfl) (by kernel_rfl) (by kernel_rfl) (fun _ _ _ h => h) (Or.inl ⟨by kernel_rfl, ?_⟩) hS ?_
        · intro w5 hSw
          clear hSw hS
          go_simp
        simp only [Act.put, List.setIfInBounds_toArray, List.set_cons_zero, List.set_cons_succ]
        clear hS
        refine wpAnyH_done (by kernel_rfl) ?_ _
        repeat go_step
        refine bodyPost_ret (result_cell_tmp Tryz.results116 _ _ w.heap.size z6 _ rfl rfl HA8.out.range Tryz.underlying48 rfl (by kernel_rfl)) rfl ?_
        rw [HE.out]
        exact ⟨rfl, HU8.out⟩
      | true =>
        rw [hvk] at HVk HR
        go_wp2_with fail
        refine HVk.out.mono ?_
        rintro e w9 ⟨rfl, h9⟩
        obtain rfl := h9.symm
        clear h9
        dsimp only
        have HKm := Hid.of (isKnownMethod_walk m w5 (range_up HMM.out HU5.out))
        cases hkm : mtk m with
        | false =>
          rw [hkm] at HKm HR
          have HE := Hid.of (show rv = rlR ad (.error 10) by rw [← HR.out]; rfl)
          go_wp2_with fail
          refine (HKm.out).mono ?_
          rintro e w6 ⟨rfl, h9⟩
          have HU6 := Hid.of (HU5.out.trans h9)
          have HA6 := Hid.of (HA5.out.up h9)
          clear h9
          dsimp only
          go_wp2
          refine wp_region_held_drew (S := fun w2 => (∃ cs, cs.length = 6 ∧ At w2 w.heap.size 48 cs) ∧ GE w2 ad ∧ Up w w2) (by kernel_rfl) ⟨⟨z6, rfl, HA6.out.up (Up.refl _).drew⟩, HG.out.up HU6.out.drew, HU6.out.drew⟩ (fun hS => ?_)
          refine wpAnyH_take (i := 0) (oi := { dst := some 42, op := Go.Op.build 48 #[], type := 48, pos := "start.go:58", after := #[], guard := none }) (v := .agg z6.toArray) rfl (by kernel_rfl) (by kernel_rfl) (by kernel_rfl) (fun _ _ _ h => h) (Or.inl ⟨by kernel_rfl, ?_⟩) hS ?_
          · intro w5 hSw
            clear hSw hS
            go_simp
            rfl
          simp only [Act.put, List.setIfInBounds_toArray, List.set_cons_zero, List.set_cons_succ]
          refine wpAnyH_take (i := 1) (oi := { dst := some 43, op := Go.Op.load 106 (Go.Operand.global 4), type := 106, pos := "start.go:58", after := #[{ on := 2, ground := Go.Ground.gcOnly Go.Departure.lateStores }], guard := none }) (v := ev (ad 10)) rfl (by kernel_rfl) (by kernel_rfl) (by kernel_rfl) (fun _ _ _ h => h) (Or.inl ⟨by kernel_rfl, ?_⟩) hS ?_
          · intro w5 hSw
            have hgl : w5.cell? ⟨4, 0, none⟩ = _ := hSw.2.1.gl 10 (by decide)
            clear hSw hS
            go_simp
          simp only [Act.put, List.setIfInBounds_toArray, List.set_cons_zero, List.set_cons_succ]
          refine wpAnyH_ready (rs := [2]) (by kernel_rfl) (by simp) ?_
          refine AllReadyH.cons (o := { dst := none, op := Go.Op.store 48 (Go.Operand.tmp 2) (Go.Operand.tmp 42), type := 0, pos := "start.go:58", after := #[{ on := 0, ground := Go.Ground.data }, { on := 0, ground := Go.Ground.phase }, { on := 1, ground := Go.Ground.textOnly Go.Departure.lateStores }], guard := none }) rfl (fun K hK => oper_of_list ?_) AllReadyH.nil
          obtain ⟨⟨cs, hcl, hcs2⟩, hS1, hS2⟩ := hS
          refine wpList_store_at rfl 48 _ _ rfl w.heap.size hcs2 z6 rfl rfl hcl.symm (by kernel_rfl) (by kernel_rfl) ?_
          intro w8 hA8 hg8
          have HA8 := Hid.of hA8
          have HU8 := Hid.of (hS2.by hg8 (fun g hg => by have := Option.some.inj hg; omega))
          clear hA8 hg8 hcs2 hS2 hS1
          refine hK.out _ _ ⟨⟨_, rfl, HA8.out⟩, HG.out.up HU8.out, HU8.out⟩ (fun hS => ?_)
          clear hK K
          refine wpAnyH_take (i := 3) (oi := { dst := some 3, op := Go.Op.assign (Go.Operand.tmp 43), type := 106, pos := "start.go:58", after := #[{ on := 1, ground := Go.Ground.data }, { on := 2, ground := Go.Ground.chain }, { on := 0, ground := Go.Ground.phase }, { on := 1, ground := Go.Ground.phase }, { on := 2, ground := Go.Ground.phase }], guard := none }) (v := ev (ad 10)) rfl (by kernel_rfl) (by kernel_rfl) (by kernel_rfl) (fun _ _ _ h => h) (Or.inl ⟨by kernel_rfl, ?_⟩) hS ?_
          · intro w5 hSw
            clear hSw hS
            go_simp
          simp only [Act.put, List.setIfInBounds_toArray, List.set_cons_zero, List.set_cons_succ]
          clear hS
          refine wpAnyH_done (by kernel_rfl) ?_ _
          repeat go_step
          refine bodyPost_ret (result_cell_tmp Tryz.results116 _ _ w.heap.size z6 _ rfl rfl HA8.out.range Tryz.underlying48 rfl (by kernel_rfl)) rfl ?_
          rw [HE.out]
          exact ⟨rfl, HU8.out⟩
        | true =>
          rw [hkm] at HKm HR
          go_wp2_with fail
          refine (HKm.out).mono ?_
          rintro e w6 ⟨rfl, h9⟩
          have HU6 := Hid.of (HU5.out.trans h9)
          have HA6 := Hid.of (HA5.out.up h9)
          clear h9
          dsimp only
          have HMn := Hid.of (minorOf_walk ad v w6 (HG.out.up HU6.out) (HNN.out.up HU6.out))
          cases hmn : mno v with
          | error k =>
            have hk4 := mno_er hmn
            subst hk4
            rw [hmn] at HMn HR
            have HE := Hid.of (show rv = rlR ad (.error 4) by rw [← HR.out]; rfl)
            unfold mnR at HMn
            dsimp only at HMn
            go_wp2_with fail
            refine (HMn.out).mono ?_
            rintro e w7 ⟨rfl, h9⟩
            have HU7 := Hid.of (HU6.out.trans h9)
            have HA7 := Hid.of (HA6.out.up h9)
            clear h9
            dsimp only
            go_wp2_with (with_reducible show wpList _ _ _ ({ dst := _, op := Op.store 48 _ _, type := _, pos := _, after := _, guard := _ } :: _) _ _; refine Shut.out ?_)
            show wpList _ _ _ _ _ _
            refine wpList_store_at rfl 48 _ _ rfl w.heap.size HA7.out z6 rfl rfl rfl (by kernel_rfl) (by kernel_rfl) ?_
            intro w8 hA8 hg8
            have HA8 := Hid.of hA8
            have HU8 := Hid.of (HU7.out.by hg8 (fun g hg => by have := Option.some.inj hg; omega))
            clear hA8 hg8
            simp only [Act.put]
            repeat go_step
            refine bodyPost_ret (result_cell_tmp Tryz.results116 _ _ w.heap.size z6 _ rfl rfl HA8.out.range Tryz.underlying48 rfl (by kernel_rfl)) rfl ?_
            rw [HE.out]
            exact ⟨rfl, HU8.out⟩
          | ok n =>
            rw [hmn] at HMn HR
            have HE := Hid.of (show rv = .tuple #[.agg #[.string m, .string t, .int .i64 n, .slice none 0 0, .slice none 0 0, .bool false], .nilIface] by rw [← HR.out]; unfold rlR; simp [vs_data'])
            unfold mnR at HMn
            dsimp only at HMn
            go_wp2_with fail
            refine (HMn.out).mono ?_
            rintro e w7 ⟨rfl, h9⟩
            have HU7 := Hid.of (HU6.out.trans h9)
            have HA7 := Hid.of (HA6.out.up h9)
            clear h9
            dsimp only
            go_wp2_with (with_reducible show wpList _ _ _ ({ dst := _, op := Op.store 48 _ _, type := _, pos := _, after := _, guard := _ } :: _) _ _; refine Shut.out ?_)
            show wpList _ _ _ _ _ _
            refine wpList_store_at rfl 48 _ _ rfl w.heap.size HA7.out [.string m, .string t, .int .i64 n, .slice none 0 0, .slice none 0 0, .bool false] rfl rfl rfl (by kernel_rfl) (by kernel_rfl) ?_
            intro w8 hA8 hg8
            have HA8 := Hid.of hA8
            have HU8 := Hid.of (HU7.out.by hg8 (fun g hg => by have := Option.some.inj hg; omega))
            clear hA8 hg8
            simp only [Act.put]
            repeat go_step
            refine bodyPost_ret (result_cell_tmp Tryz.results116 _ _ w.heap.size [.string m, .string t, .int .i64 n, .slice none 0 0, .slice none 0 0, .bool false] _ rfl rfl HA8.out.range Tryz.underlying48 rfl (by kernel_rfl)) rfl ?_
            rw [HE.out]
            exact ⟨rfl, HU8.out⟩
end Go.Proofs.YtabpgpbcnadgcaaGreatDoor
