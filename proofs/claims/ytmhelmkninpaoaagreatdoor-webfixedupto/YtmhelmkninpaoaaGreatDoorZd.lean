import Derived.Test.YtmhelmkninpaoaaGreatDoorZc
namespace Go.Proofs.YtmhelmkninpaoaaGreatDoor
open Go.RowKit Go.Shelf TextNum
/-- three digits -/
def rsO (l : List UInt8) : Bool := decide (l.length = 3) && l.all isD
def rsN (l : List UInt8) : Nat := if rsO l = true then nv l else 0
def bd3 (i k : Nat) : Prop := (i = 0 ∧ k = 0) ∨ (i = 1 ∧ k ≤ 9) ∨ (i = 2 ∧ k ≤ 99) ∨ (i = 3 ∧ k ≤ 999)
theorem isD_iff' {c : UInt8} : isD c = true ↔ 48 ≤ c.toNat ∧ c.toNat ≤ 57 := by simp [isD]
theorem wrapu8 (z : Int) (h0 : 0 ≤ z) (h1 : z < 256) : IntKind.u8.wrap z = z := by
  simp only [IntKind.wrap, IntKind.signed, IntKind.bits]
  simp
  omega
set_option maxRecDepth 100000 in
set_option maxHeartbeats 1000000 in
theorem readStatus_walk (s : ByteArray) (w : World) : Calls Tryz.prog 88 #[.string s] w fun e w' => e = .returned (.tuple #[.int .i64 (rsN s.data.toList : Int), .bool (rsO s.data.toList)]) ∧ w' = w := by
  have HS := Hid.of (Go.Lib.size_eq s)
  obtain ⟨L, hL⟩ : ∃ L, s.data.toList = L := ⟨_, rfl⟩
  have HL := Hid.of hL
  rw [hL] at HS ⊢
  obtain ⟨rn, hrn⟩ : ∃ rn, rsN L = rn := ⟨_, rfl⟩
  obtain ⟨ro, hro⟩ : ∃ ro, rsO L = ro := ⟨_, rfl⟩
  have HR := Hid.of (And.intro hrn hro)
  rw [hrn, hro]
  clear hrn hro hL
  by_cases h3 : s.size = 3
  · have h3z : ((s.size : Int) != 3) = false := by rw [h3]; rfl
    have h3s : (s.size : Int) = 3 := by omega
    have HL3 := Hid.of (show L.length = 3 by rw [← HS.out]; exact h3)
    go_enter Tryz.func88, Tryz.ntmps88
    go_wp2
    go_loop [4, 11] (fun v4 v11 => ∃ i k : Nat, v11 = .int .i64 (i : Int) ∧ v4 = .int .i64 (k : Int) ∧ i ≤ 3 ∧ bd3 i k ∧ Hid ((L.take i).all isD = true ∧ nv (L.take i) = k)) (fun _ v11 => 3 - (intOf v11).toNat)
    case atStart => exact ⟨0, 0, rfl, rfl, by omega, .inl ⟨rfl, rfl⟩, Hid.of ⟨by simp, by simp [nv, nvf]⟩⟩
    case round =>
      obtain ⟨i, k, rfl, rfl, hi, hb, hI⟩ := hrel
      by_cases hlt : i < 3
      · have hlt' : (i : Int) < 3 := by omega
        have his : i < s.size := by omega
        have ht : L.take (i + 1) = L.take i ++ [s[i]] := by
          have := take_succ0 (l := L) (i := i) (by rw [← HS.out]; exact his)
          rw [this]
          simp only [sget' s i his, HL.out]
        by_cases hd : isD s[i] = true
        · have hd' := isD_iff'.1 hd
          have HN := Hid.of (show (L.take (i + 1)).all isD = true by rw [ht, List.all_append, hI.out.1]; simp [hd])
          have HV := Hid.of (show nv (L.take (i + 1)) = 10 * k + (s[i].toNat - 48) by rw [ht, nv_snoc, hI.out.2])
          have HD := Hid.of (isDigit_walk s[i] w)
          rw [hd] at HD
          have hb2 : bd3 (i + 1) (10 * k + (s[i].toNat - 48)) ∧ k ≤ 99 := by unfold bd3 at hb ⊢; omega
          have hw1 : IntKind.i64.wrap (10 * (k : Int)) = 10 * (k : Int) := wrapk _ (by omega) (by omega)
          have hw2 : IntKind.u8.wrap ((s[i].toNat : Int) - 48) = (s[i].toNat : Int) - 48 := wrapu8 _ (by omega) (by omega)
          have hw3 : IntKind.i64.wrap ((s[i].toNat : Int) - 48) = (s[i].toNat : Int) - 48 := wrapk _ (by omega) (by omega)
          have hw4 : IntKind.i64.wrap (10 * (k : Int) + ((s[i].toNat : Int) - 48)) = 10 * (k : Int) + ((s[i].toNat : Int) - 48) := wrapk _ (by omega) (by omega)
          clear ht hd
          go_wp2_with fail
          refine (HD.out).mono ?_
          rintro e w9 ⟨rfl, h9⟩
          obtain rfl := h9.symm
          clear h9
          dsimp only
          go_wp2
          go_round
          case rel => exact ⟨i + 1, 10 * k + (s[i].toNat - 48), by go_num, by simp only [Value.int.injEq, true_and]; omega, by omega, hb2.1, HN.out, HV.out⟩
          case measure => simp [intOf]; omega
        · have hno : L.all isD = false := by
            rw [List.all_eq_false]
            refine ⟨s[i], ?_, hd⟩
            have hli : i < L.length := by rw [← HS.out]; exact his
            have : s[i] = L[i] := by simp only [sget' s i his, HL.out]
            rw [this]
            exact List.getElem_mem hli
          have HE := Hid.of (show rn = 0 ∧ ro = false by
            have hO : rsO L = false := by unfold rsO; rw [hno, Bool.and_false]
            rw [← HR.out.1, ← HR.out.2]
            unfold rsN
            rw [hO]
            exact ⟨rfl, rfl⟩)
          have hdf : isD s[i] = false := by simpa using hd
          have HD := Hid.of (isDigit_walk s[i] w)
          rw [hdf] at HD
          clear ht hd hno hdf
          go_wp2_with fail
          refine (HD.out).mono ?_
          rintro e w9 ⟨rfl, h9⟩
          obtain rfl := h9.symm
          clear h9
          dsimp only
          go_wp2
          go_ret2
          rw [HE.out.1, HE.out.2]
          exact ⟨rfl, rfl⟩
      · have hlt' : ¬ (i : Int) < 3 := by omega
        have hi3 : i = 3 := by omega
        have HE := Hid.of (show rn = k ∧ ro = true by
          have h1 := hI.out
          rw [hi3, List.take_of_length_le (by rw [HL3.out]; omega)] at h1
          have hO : rsO L = true := by unfold rsO; rw [HL3.out, h1.1]; rfl
          rw [← HR.out.1, ← HR.out.2]
          unfold rsN
          rw [hO, h1.2]
          exact ⟨rfl, rfl⟩)
        clear hi3
        go_wp2
        go_ret2
        rw [HE.out.1, HE.out.2]
        exact ⟨rfl, rfl⟩
  · have h3z : ((s.size : Int) != 3) = true := by simp; omega
    have HE := Hid.of (show rn = 0 ∧ ro = false by
      have hO : rsO L = false := by unfold rsO; rw [decide_eq_false (by rw [← HS.out]; exact h3)]; rfl
      rw [← HR.out.1, ← HR.out.2]
      unfold rsN
      rw [hO]
      exact ⟨rfl, rfl⟩)
    go_enter Tryz.func88, Tryz.ntmps88
    go_wp2
    go_ret2
    rw [HE.out.1, HE.out.2]
    exact ⟨rfl, rfl⟩
/-- a response without anything -/
def z5 : List Value := [.int .i64 0, .int .i64 0, .slice none 0 0, .slice none 0 0, .bool false]
/-- a response's first line -/
def rsl (l : List UInt8) : Er (Nat × Int) :=
  if (rsO (c1 32 (c2 32 l)) && (vok (c1 32 l) && vlu (c2 32 (c2 32 l)))) = false then .error 3
  else match mno ⟨(c1 32 l).toArray⟩ with
    | .error k => .error k
    | .ok n => if sto (rsN (c1 32 (c2 32 l)) : Int) = false then .error 11 else .ok (rsN (c1 32 (c2 32 l)), n)
def slR (ad : Nat → Addr) : Er (Nat × Int) → Value
  | .error k => .tuple #[.agg z5.toArray, ev (ad k)]
  | .ok (s, n) => .tuple #[.agg #[.int .i64 (s : Int), .int .i64 n, .slice none 0 0, .slice none 0 0, .bool false], .nilIface]
theorem rsl_er {l : List UInt8} {k : Nat} (h : rsl l = .error k) : k < 12 := by
  unfold rsl at h
  split at h
  · injection h with h; omega
  · split at h
    · rename_i hm
      injection h with h
      have := mno_er hm
      omega
    · split at h
      · injection h with h; omega
      · cases h
set_option maxRecDepth 100000 in
set_option maxHeartbeats 2000000 in
theorem readStatusLine_walk (ad : Nat → Addr) (s : ByteArray) (hs : s.size ≤ 1048576) (w : World) (h : GE w ad) (hN : GN w) : Calls Tryz.prog 55 #[.string s] w fun e w' => e = .returned (slR ad (rsl s.data.toList)) ∧ Up w w' := by
  have HG := Hid.of h
  have HNN := Hid.of hN
  clear h hN
  have HA0 := Hid.of (at_new w 33 z5)
  have HU0 := Hid.of ((Up.refl w).alloc (.cells z5.toArray 33))
  obtain ⟨L, hL⟩ : ∃ L, s.data.toList = L := ⟨_, rfl⟩
  have hC1 := fun w => Cut_up s (by omega) 32 w
  have hl1 := c_len 32 L
  have hl2 := c_len 32 (c2 32 L)
  have hLs : L.length = s.size := by rw [← hL, ← Go.Lib.size_eq]
  rw [hL] at hC1 ⊢
  clear hL
  obtain ⟨rv, hrv⟩ : ∃ rv, slR ad (rsl L) = rv := ⟨_, rfl⟩
  have HR := Hid.of hrv
  rw [hrv]
  clear hrv
  unfold rsl at HR
  obtain ⟨m, hm⟩ : ∃ m : ByteArray, (⟨(c1 32 L).toArray⟩ : ByteArray) = m := ⟨_, rfl⟩
  obtain ⟨r, hr⟩ : ∃ r : ByteArray, (⟨(c2 32 L).toArray⟩ : ByteArray) = r := ⟨_, rfl⟩
  have hmd : c1 32 L = m.data.toList := by rw [← hm]
  have hrd : c2 32 L = r.data.toList := by rw [← hr]
  have hms : m.size ≤ 1048576 := by rw [Go.Lib.size_eq, ← hmd]; omega
  have hrs : r.size ≤ 1048576 := by rw [Go.Lib.size_eq, ← hrd]; omega
  have hC2 := fun w => Cut_up r (by omega) 32 w
  rw [hmd, vs_data', hrd, vs_data'] at hC1
  rw [hm, hmd, hrd] at HR
  rw [hrd] at hl2
  obtain ⟨t, ht⟩ : ∃ t : ByteArray, (⟨(c1 32 r.data.toList).toArray⟩ : ByteArray) = t := ⟨_, rfl⟩
  obtain ⟨v, hv⟩ : ∃ v : ByteArray, (⟨(c2 32 r.data.toList).toArray⟩ : ByteArray) = v := ⟨_, rfl⟩
  have htd : c1 32 r.data.toList = t.data.toList := by rw [← ht]
  have hvd : c2 32 r.data.toList = v.data.toList := by rw [← hv]
  have hvs : v.size ≤ 1048576 := by rw [Go.Lib.size_eq, ← hvd]; rw [Go.Lib.size_eq] at hrs; omega
  rw [htd, vs_data', hvd, vs_data'] at hC2
  rw [htd, hvd] at HR
  generalize (Go.Lib.cut L [32]).2.2 = bb1 at *
  generalize (Go.Lib.cut r.data.toList [32]).2.2 = bb2 at *
  have HC1 := Hid.of hC1
  have HC2 := Hid.of hC2
  clear hC1 hC2 hm hr ht hv hmd hrd htd hvd hl1 hl2 hLs
  go_enter Tryz.func55, Tryz.ntmps55
  go_wp2_with fail
  change Calls _ _ _ (w.alloc (.cells z5.toArray 33)) _
  generalize w.alloc (.cells z5.toArray 33) = w1 at *
  refine (HC1.out w1).mono ?_
  rintro e w2 ⟨rfl, h9⟩
  have HU2 := Hid.of (HU0.out.trans h9)
  have HA2 := Hid.of (HA0.out.up h9)
  clear h9
  dsimp only
  go_wp2_with fail
  refine (HC2.out w2).mono ?_
  rintro e w3 ⟨rfl, h9⟩
  have HU3 := Hid.of (HU2.out.trans h9)
  have HA3 := Hid.of (HA2.out.up h9)
  clear h9
  dsimp only
  have HRS := Hid.of (readStatus_walk t w3)
  obtain ⟨sn, hsn⟩ : ∃ sn, rsN t.data.toList = sn := ⟨_, rfl⟩
  rw [hsn] at HRS HR
  clear hsn
  go_wp2_with fail
  refine (HRS.out).mono ?_
  rintro e w9 ⟨rfl, h9⟩
  obtain rfl := h9.symm
  clear h9
  dsimp only
  cases hk : rsO t.data.toList with
  | false =>
    rw [hk] at HR
    have HE := Hid.of (show rv = slR ad (.error 3) by rw [← HR.out]; rfl)
    clear hk
    go_wp2
    refine wp_region_held_drew (S := fun w2 => (∃ cs, cs.length = 5 ∧ At w2 w.heap.size 33 cs) ∧ GE w2 ad ∧ Up w w2) (by kernel_rfl) ⟨⟨z5, rfl, HA3.out.up (Up.refl _).drew⟩, HG.out.up HU3.out.drew, HU3.out.drew⟩ (fun hS => ?_)
    refine wpAnyH_take (i := 0) (oi := { dst := some 43, op := Go.Op.build 33 #[], type := 33, pos := "start.go:73", after := #[], guard := none }) (v := .agg z5.toArray) rfl (by kernel_rfl) (by kernel_rfl) (by kernel_rfl) (fun _ _ _ h => h) (Or.inl ⟨by kernel_rfl, ?_⟩) hS ?_
    · intro w5 hSw
      clear hSw hS
      go_simp
      rfl
    simp only [Act.put, List.setIfInBounds_toArray, List.set_cons_zero, List.set_cons_succ]
    refine wpAnyH_take (i := 1) (oi := { dst := some 44, op := Go.Op.load 66 (Go.Operand.global 1), type := 66, pos := "start.go:73", after := #[{ on := 2, ground := Go.Ground.gcOnly Go.Departure.lateStores }], guard := none }) (v := ev (ad 3)) rfl (by kernel_rfl) (by kernel_rfl) (by kernel_rfl) (fun _ _ _ h => h) (Or.inl ⟨by kernel_rfl, ?_⟩) hS ?_
    · intro w5 hSw
      have hgl : w5.cell? ⟨1, 0, none⟩ = _ := hSw.2.1.gl 3 (by decide)
      clear hSw hS
      go_simp
    simp only [Act.put, List.setIfInBounds_toArray, List.set_cons_zero, List.set_cons_succ]
    refine wpAnyH_ready (rs := [2]) (by kernel_rfl) (by simp) ?_
    refine AllReadyH.cons (o := { dst := none, op := Go.Op.store 33 (Go.Operand.tmp 2) (Go.Operand.tmp 43), type := 0, pos := "start.go:73", after := #[{ on := 0, ground := Go.Ground.data }, { on := 0, ground := Go.Ground.phase }, { on := 1, ground := Go.Ground.textOnly Go.Departure.lateStores }], guard := none }) rfl (fun K hK => oper_of_list ?_) AllReadyH.nil
    obtain ⟨⟨cs, hcl, hcs2⟩, hS1, hS2⟩ := hS
    refine wpList_store_at rfl 33 _ _ rfl (w.heap.size) hcs2 z5 rfl rfl hcl.symm (by kernel_rfl) (by kernel_rfl) ?_
    intro w8 hA8 hg8
    have HA8 := Hid.of hA8
    have HU8 := Hid.of (hS2.by hg8 (fun g hg => by have := Option.some.inj hg; omega))
    clear hA8 hg8 hcs2 hS2 hS1
    refine hK.out _ _ ⟨⟨_, rfl, HA8.out⟩, HG.out.up HU8.out, HU8.out⟩ (fun hS => ?_)
    clear hK K
    refine wpAnyH_take (i := 3) (oi := { dst := some 3, op := Go.Op.assign (Go.Operand.tmp 44), type := 66, pos := "start.go:73", after := #[{ on := 1, ground := Go.Ground.data }, { on := 2, ground := Go.Ground.chain }, { on := 0, ground := Go.Ground.phase }, { on := 1, ground := Go.Ground.phase }, { on := 2, ground := Go.Ground.phase }], guard := none }) (v := ev (ad 3)) rfl (by kernel_rfl) (by kernel_rfl) (by kernel_rfl) (fun _ _ _ h => h) (Or.inl ⟨by kernel_rfl, ?_⟩) hS ?_
    · intro w5 hSw
      clear hSw hS
      go_simp
    simp only [Act.put, List.setIfInBounds_toArray, List.set_cons_zero, List.set_cons_succ]
    clear hS
    refine wpAnyH_done (by kernel_rfl) ?_ _
    repeat go_step
    refine bodyPost_ret (result_cell_tmp Tryz.results55 _ _ (w.heap.size) z5 _ rfl rfl HA8.out.range Tryz.underlying33 rfl (by kernel_rfl)) rfl ?_
    rw [HE.out]
    exact ⟨rfl, HU8.out⟩
  | true =>
    rw [hk] at HR
    clear hk
    have HVr := Hid.of (isVersion_walk m w3)
    cases hv0 : vok m.data.toList with
    | false =>
      rw [hv0] at HR HVr
      have HE := Hid.of (show rv = slR ad (.error 3) by rw [← HR.out]; rfl)
      clear hv0
      go_wp2_with fail
      refine (HVr.out).mono ?_
      rintro e w9 ⟨rfl, h9⟩
      obtain rfl := h9.symm
      clear h9
      dsimp only
      go_wp2
      refine wp_region_held_drew (S := fun w2 => (∃ cs, cs.length = 5 ∧ At w2 w.heap.size 33 cs) ∧ GE w2 ad ∧ Up w w2) (by kernel_rfl) ⟨⟨z5, rfl, HA3.out.up (Up.refl _).drew⟩, HG.out.up HU3.out.drew, HU3.out.drew⟩ (fun hS => ?_)
      refine wpAnyH_take (i := 0) (oi := { dst := some 43, op := Go.Op.build 33 #[], type := 33, pos := "start.go:73", after := #[], guard := none }) (v := .agg z5.toArray) rfl (by kernel_rfl) (by kernel_rfl) (by kernel_rfl) (fun _ _ _ h => h) (Or.inl ⟨by kernel_rfl, ?_⟩) hS ?_
      · intro w5 hSw
        clear hSw hS
        go_simp
        rfl
      simp only [Act.put, List.setIfInBounds_toArray, List.set_cons_zero, List.set_cons_succ]
      refine wpAnyH_take (i := 1) (oi := { dst := some 44, op := Go.Op.load 66 (Go.Operand.global 1), type := 66, pos := "start.go:73", after := #[{ on := 2, ground := Go.Ground.gcOnly Go.Departure.lateStores }], guard := none }) (v := ev (ad 3)) rfl (by kernel_rfl) (by kernel_rfl) (by kernel_rfl) (fun _ _ _ h => h) (Or.inl ⟨by kernel_rfl, ?_⟩) hS ?_
      · intro w5 hSw
        have hgl : w5.cell? ⟨1, 0, none⟩ = _ := hSw.2.1.gl 3 (by decide)
        clear hSw hS
        go_simp
      simp only [Act.put, List.setIfInBounds_toArray, List.set_cons_zero, List.set_cons_succ]
      refine wpAnyH_ready (rs := [2]) (by kernel_rfl) (by simp) ?_
      refine AllReadyH.cons (o := { dst := none, op := Go.Op.store 33 (Go.Operand.tmp 2) (Go.Operand.tmp 43), type := 0, pos := "start.go:73", after := #[{ on := 0, ground := Go.Ground.data }, { on := 0, ground := Go.Ground.phase }, { on := 1, ground := Go.Ground.textOnly Go.Departure.lateStores }], guard := none }) rfl (fun K hK => oper_of_list ?_) AllReadyH.nil
      obtain ⟨⟨cs, hcl, hcs2⟩, hS1, hS2⟩ := hS
      refine wpList_store_at rfl 33 _ _ rfl (w.heap.size) hcs2 z5 rfl rfl hcl.symm (by kernel_rfl) (by kernel_rfl) ?_
      intro w8 hA8 hg8
      have HA8 := Hid.of hA8
      have HU8 := Hid.of (hS2.by hg8 (fun g hg => by have := Option.some.inj hg; omega))
      clear hA8 hg8 hcs2 hS2 hS1
      refine hK.out _ _ ⟨⟨_, rfl, HA8.out⟩, HG.out.up HU8.out, HU8.out⟩ (fun hS => ?_)
      clear hK K
      refine wpAnyH_take (i := 3) (oi := { dst := some 3, op := Go.Op.assign (Go.Operand.tmp 44), type := 66, pos := "start.go:73", after := #[{ on := 1, ground := Go.Ground.data }, { on := 2, ground := Go.Ground.chain }, { on := 0, ground := Go.Ground.phase }, { on := 1, ground := Go.Ground.phase }, { on := 2, ground := Go.Ground.phase }], guard := none }) (v := ev (ad 3)) rfl (by kernel_rfl) (by kernel_rfl) (by kernel_rfl) (fun _ _ _ h => h) (Or.inl ⟨by kernel_rfl, ?_⟩) hS ?_
      · intro w5 hSw
        clear hSw hS
        go_simp
      simp only [Act.put, List.setIfInBounds_toArray, List.set_cons_zero, List.set_cons_succ]
      clear hS
      refine wpAnyH_done (by kernel_rfl) ?_ _
      repeat go_step
      refine bodyPost_ret (result_cell_tmp Tryz.results55 _ _ (w.heap.size) z5 _ rfl rfl HA8.out.range Tryz.underlying33 rfl (by kernel_rfl)) rfl ?_
      rw [HE.out]
      exact ⟨rfl, HU8.out⟩
    | true =>
      rw [hv0] at HR HVr
      clear hv0
      have HVl := Hid.of (mayBeValue_walk v (by omega) w3)
      go_wp2_with fail
      refine (HVr.out).mono ?_
      rintro e w9 ⟨rfl, h9⟩
      obtain rfl := h9.symm
      clear h9
      dsimp only
      cases hvl : vlu v.data.toList with
      | false =>
        rw [hvl] at HR HVl
        have HE := Hid.of (show rv = slR ad (.error 3) by rw [← HR.out]; rfl)
        clear hvl
        go_wp2_with fail
        refine (HVl.out).mono ?_
        rintro e w4 ⟨rfl, h9⟩
        have HU4 := Hid.of (HU3.out.trans h9)
        have HA4 := Hid.of (HA3.out.up h9)
        clear h9
        dsimp only
        go_wp2
        refine wp_region_held_drew (S := fun w2 => (∃ cs, cs.length = 5 ∧ At w2 w.heap.size 33 cs) ∧ GE w2 ad ∧ Up w w2) (by kernel_rfl) ⟨⟨z5, rfl, HA4.out.up (Up.refl _).drew⟩, HG.out.up HU4.out.drew, HU4.out.drew⟩ (fun hS => ?_)
        refine wpAnyH_take (i := 0) (oi := { dst := some 43, op := Go.Op.build 33 #[], type := 33, pos := "start.go:73", after := #[], guard := none }) (v := .agg z5.toArray) rfl (by kernel_rfl) (by kernel_rfl) (by kernel_rfl) (fun _ _ _ h => h) (Or.inl ⟨by kernel_rfl, ?_⟩) hS ?_
        · intro w5 hSw
          clear hSw hS
          go_simp
          rfl
        simp only [Act.put, List.setIfInBounds_toArray, List.set_cons_zero, List.set_cons_succ]
        refine wpAnyH_take (i := 1) (oi := { dst := some 44, op := Go.Op.load 66 (Go.Operand.global 1), type := 66, pos := "start.go:73", after := #[{ on := 2, ground := Go.Ground.gcOnly Go.Departure.lateStores }], guard := none }) (v := ev (ad 3)) rfl (by kernel_rfl) (by kernel_rfl) (by kernel_rfl) (fun _ _ _ h => h) (Or.inl ⟨by kernel_rfl, ?_⟩) hS ?_
        · intro w5 hSw
          have hgl : w5.cell? ⟨1, 0, none⟩ = _ := hSw.2.1.gl 3 (by decide)
          clear hSw hS
          go_simp
        simp only [Act.put, List.setIfInBounds_toArray, List.set_cons_zero, List.set_cons_succ]
        refine wpAnyH_ready (rs := [2]) (by kernel_rfl) (by simp) ?_
        refine AllReadyH.cons (o := { dst := none, op := Go.Op.store 33 (Go.Operand.tmp 2) (Go.Operand.tmp 43), type := 0, pos := "start.go:73", after := #[{ on := 0, ground := Go.Ground.data }, { on := 0, ground := Go.Ground.phase }, { on := 1, ground := Go.Ground.textOnly Go.Departure.lateStores }], guard := none }) rfl (fun K hK => oper_of_list ?_) AllReadyH.nil
        obtain ⟨⟨cs, hcl, hcs2⟩, hS1, hS2⟩ := hS
        refine wpList_store_at rfl 33 _ _ rfl (w.heap.size) hcs2 z5 rfl rfl hcl.symm (by kernel_rfl) (by kernel_rfl) ?_
        intro w8 hA8 hg8
        have HA8 := Hid.of hA8
        have HU8 := Hid.of (hS2.by hg8 (fun g hg => by have := Option.some.inj hg; omega))
        clear hA8 hg8 hcs2 hS2 hS1
        refine hK.out _ _ ⟨⟨_, rfl, HA8.out⟩, HG.out.up HU8.out, HU8.out⟩ (fun hS => ?_)
        clear hK K
        refine wpAnyH_take (i := 3) (oi := { dst := some 3, op := Go.Op.assign (Go.Operand.tmp 44), type := 66, pos := "start.go:73", after := #[{ on := 1, ground := Go.Ground.data }, { on := 2, ground := Go.Ground.chain }, { on := 0, ground := Go.Ground.phase }, { on := 1, ground := Go.Ground.phase }, { on := 2, ground := Go.Ground.phase }], guard := none }) (v := ev (ad 3)) rfl (by kernel_rfl) (by kernel_rfl) (by kernel_rfl) (fun _ _ _ h => h) (Or.inl ⟨by kernel_rfl, ?_⟩) hS ?_
        · intro w5 hSw
          clear hSw hS
          go_simp
        simp only [Act.put, List.setIfInBounds_toArray, List.set_cons_zero, List.set_cons_succ]
        clear hS
        refine wpAnyH_done (by kernel_rfl) ?_ _
        repeat go_step
        refine bodyPost_ret (result_cell_tmp Tryz.results55 _ _ (w.heap.size) z5 _ rfl rfl HA8.out.range Tryz.underlying33 rfl (by kernel_rfl)) rfl ?_
        rw [HE.out]
        exact ⟨rfl, HU8.out⟩
      | true =>
        rw [hvl] at HR HVl
        have HR2 := Hid.of (show rv = slR ad (match mno m with | .error k => .error k | .ok n => if sto (sn : Int) = false then .error 11 else .ok (sn, n)) by rw [← HR.out]; rfl)
        clear hvl HR
        go_wp2_with fail
        refine (HVl.out).mono ?_
        rintro e w4 ⟨rfl, h9⟩
        have HU4 := Hid.of (HU3.out.trans h9)
        have HA4 := Hid.of (HA3.out.up h9)
        clear h9
        dsimp only
        have HMo := Hid.of (minorOf_walk ad m w4 (HG.out.up HU4.out) (HNN.out.up HU4.out))
        go_wp2_with fail
        refine (HMo.out).mono ?_
        rintro e w5 ⟨rfl, h9⟩
        have HU5 := Hid.of (HU4.out.trans h9)
        have HA5 := Hid.of (HA4.out.up h9)
        clear h9
        dsimp only
        cases hmo : mno m with
        | error k =>
          have hk4 := mno_er hmo
          subst hk4
          rw [hmo] at HR2
          have HE := Hid.of (show rv = slR ad (.error 4) from HR2.out)
          unfold mnR
          dsimp only
          clear hmo
          go_wp2_with (with_reducible show wpList _ _ _ ({ dst := _, op := Op.store 33 _ _, type := _, pos := _, after := _, guard := _ } :: _) _ _; refine Shut.out ?_)
          show wpList _ _ _ _ _ _
          refine wpList_store_at rfl 33 _ _ rfl (w.heap.size) HA5.out z5 rfl rfl rfl (by kernel_rfl) (by kernel_rfl) ?_
          intro w8 hA8 hg8
          have HA8 := Hid.of hA8
          have HU8 := Hid.of (HU5.out.by hg8 (fun g hg => by have := Option.some.inj hg; omega))
          clear hA8 hg8
          simp only [Act.put]
          repeat go_step
          refine bodyPost_ret (result_cell_tmp Tryz.results55 _ _ (w.heap.size) z5 _ rfl rfl HA8.out.range Tryz.underlying33 rfl (by kernel_rfl)) rfl ?_
          rw [HE.out]
          exact ⟨rfl, HU8.out⟩
        | ok mi =>
          rw [hmo] at HR2
          unfold mnR
          dsimp only at HR2 ⊢
          clear hmo
          have HSt := Hid.of (isStatus_walk (sn : Int) w5)
          cases hst : sto (sn : Int) with
          | false =>
            rw [hst] at HR2 HSt
            have HE := Hid.of (show rv = slR ad (.error 11) by rw [HR2.out]; rfl)
            clear hst
            go_wp2_with fail
            refine (HSt.out).mono ?_
            rintro e w9 ⟨rfl, h9⟩
            obtain rfl := h9.symm
            clear h9
            dsimp only
            go_wp2
            refine wp_region_held_drew (S := fun w2 => (∃ cs, cs.length = 5 ∧ At w2 w.heap.size 33 cs) ∧ GE w2 ad ∧ Up w w2) (by kernel_rfl) ⟨⟨z5, rfl, HA5.out.up (Up.refl _).drew⟩, HG.out.up HU5.out.drew, HU5.out.drew⟩ (fun hS => ?_)
            refine wpAnyH_take (i := 0) (oi := { dst := some 57, op := Go.Op.build 33 #[], type := 33, pos := "start.go:80", after := #[], guard := none }) (v := .agg z5.toArray) rfl (by kernel_rfl) (by kernel_rfl) (by kernel_rfl) (fun _ _ _ h => h) (Or.inl ⟨by kernel_rfl, ?_⟩) hS ?_
            · intro w5 hSw
              clear hSw hS
              go_simp
              rfl
            simp only [Act.put, List.setIfInBounds_toArray, List.set_cons_zero, List.set_cons_succ]
            refine wpAnyH_take (i := 1) (oi := { dst := some 58, op := Go.Op.load 66 (Go.Operand.global 11), type := 66, pos := "start.go:80", after := #[{ on := 2, ground := Go.Ground.gcOnly Go.Departure.lateStores }], guard := none }) (v := ev (ad 11)) rfl (by kernel_rfl) (by kernel_rfl) (by kernel_rfl) (fun _ _ _ h => h) (Or.inl ⟨by kernel_rfl, ?_⟩) hS ?_
            · intro w5 hSw
              have hgl : w5.cell? ⟨11, 0, none⟩ = _ := hSw.2.1.gl 11 (by decide)
              clear hSw hS
              go_simp
            simp only [Act.put, List.setIfInBounds_toArray, List.set_cons_zero, List.set_cons_succ]
            refine wpAnyH_ready (rs := [2]) (by kernel_rfl) (by simp) ?_
            refine AllReadyH.cons (o := { dst := none, op := Go.Op.store 33 (Go.Operand.tmp 2) (Go.Operand.tmp 57), type := 0, pos := "start.go:80", after := #[{ on := 0, ground := Go.Ground.data }, { on := 0, ground := Go.Ground.phase }, { on := 1, ground := Go.Ground.textOnly Go.Departure.lateStores }], guard := none }) rfl (fun K hK => oper_of_list ?_) AllReadyH.nil
            obtain ⟨⟨cs, hcl, hcs2⟩, hS1, hS2⟩ := hS
            refine wpList_store_at rfl 33 _ _ rfl (w.heap.size) hcs2 z5 rfl rfl hcl.symm (by kernel_rfl) (by kernel_rfl) ?_
            intro w8 hA8 hg8
            have HA8 := Hid.of hA8
            have HU8 := Hid.of (hS2.by hg8 (fun g hg => by have := Option.some.inj hg; omega))
            clear hA8 hg8 hcs2 hS2 hS1
            refine hK.out _ _ ⟨⟨_, rfl, HA8.out⟩, HG.out.up HU8.out, HU8.out⟩ (fun hS => ?_)
            clear hK K
            refine wpAnyH_take (i := 3) (oi := { dst := some 3, op := Go.Op.assign (Go.Operand.tmp 58), type := 66, pos := "start.go:80", after := #[{ on := 1, ground := Go.Ground.data }, { on := 2, ground := Go.Ground.chain }, { on := 0, ground := Go.Ground.phase }, { on := 1, ground := Go.Ground.phase }, { on := 2, ground := Go.Ground.phase }], guard := none }) (v := ev (ad 11)) rfl (by kernel_rfl) (by kernel_rfl) (by kernel_rfl) (fun _ _ _ h => h) (Or.inl ⟨by kernel_rfl, ?_⟩) hS ?_
            · intro w5 hSw
              clear hSw hS
              go_simp
            simp only [Act.put, List.setIfInBounds_toArray, List.set_cons_zero, List.set_cons_succ]
            clear hS
            refine wpAnyH_done (by kernel_rfl) ?_ _
            repeat go_step
            refine bodyPost_ret (result_cell_tmp Tryz.results55 _ _ (w.heap.size) z5 _ rfl rfl HA8.out.range Tryz.underlying33 rfl (by kernel_rfl)) rfl ?_
            rw [HE.out]
            exact ⟨rfl, HU8.out⟩
          | true =>
            rw [hst] at HR2 HSt
            have HE := Hid.of (show rv = .tuple #[.agg #[.int .i64 (sn : Int), .int .i64 mi, .slice none 0 0, .slice none 0 0, .bool false], .nilIface] by rw [HR2.out]; rfl)
            clear hst
            go_wp2_with fail
            refine (HSt.out).mono ?_
            rintro e w9 ⟨rfl, h9⟩
            obtain rfl := h9.symm
            clear h9
            dsimp only
            go_wp2_with (with_reducible show wpList _ _ _ ({ dst := _, op := Op.store 33 _ _, type := _, pos := _, after := _, guard := _ } :: _) _ _; refine Shut.out ?_)
            show wpList _ _ _ _ _ _
            refine wpList_store_at rfl 33 _ _ rfl (w.heap.size) HA5.out [.int .i64 (sn : Int), .int .i64 mi, .slice none 0 0, .slice none 0 0, .bool false] rfl rfl rfl (by kernel_rfl) (by kernel_rfl) ?_
            intro w8 hA8 hg8
            have HA8 := Hid.of hA8
            have HU8 := Hid.of (HU5.out.by hg8 (fun g hg => by have := Option.some.inj hg; omega))
            clear hA8 hg8
            simp only [Act.put]
            repeat go_step
            refine bodyPost_ret (result_cell_tmp Tryz.results55 _ _ (w.heap.size) [.int .i64 (sn : Int), .int .i64 mi, .slice none 0 0, .slice none 0 0, .bool false] _ rfl rfl HA8.out.range Tryz.underlying33 rfl (by kernel_rfl)) rfl ?_
            rw [HE.out]
            exact ⟨rfl, HU8.out⟩
/-- how a response's body is told -/
def rsF (st : Int) (fs : List FD) (mi : Int) : Er (Int × Nat) := if bdl st = true then .ok (0, 0) else frm fs mi 1
set_option maxRecDepth 100000 in
set_option maxHeartbeats 2000000 in
theorem responseFraming_walk (ad : Nat → Addr) (st mi : Int) (a : Option Addr) (fs : List FD) (c nf : Nat) (vb : Value) (cl : Bool) (hnf : fs.length = nf) (w : World) (h : FdL w a fs c) (hl : fs.length ≤ 1048576) (hs : ∀ f ∈ fs, f.v.size ≤ 1048576) (hE : GE w ad) (hK : w.rangeAt 13 0 kdC) (hP : GP w) :
    Calls Tryz.prog 56 #[.agg #[.int .i64 st, .int .i64 mi, .slice a nf c, vb, .bool cl]] w fun e w' => e = .returned (frR ad (rsF st fs mi)) ∧ Up w w' := by
  have HA0 := Hid.of (at_new w 33 [.int .i64 st, .int .i64 mi, .slice a nf c, vb, .bool cl])
  have hu0 := (Up.refl w).alloc (.cells [Value.int .i64 st, .int .i64 mi, .slice a nf c, vb, .bool cl].toArray 33)
  have hu1 := hu0.alloc (.cells z2.toArray 101)
  have HZ1 := Hid.of (at_new (w.alloc (.cells [Value.int .i64 st, .int .i64 mi, .slice a nf c, vb, .bool cl].toArray 33)) 101 z2)
  have HA1 := Hid.of (HA0.out.up ((Up.refl _).alloc (.cells z2.toArray 101)))
  have HU1 := Hid.of hu1
  have hbs : (w.alloc (.cells [Value.int .i64 st, .int .i64 mi, .slice a nf c, vb, .bool cl].toArray 33)).heap.size = w.heap.size + 1 := alloc_size _ _
  rw [hbs] at HZ1
  clear hu0 hu1 hbs HA0
  have HFm := Hid.of (fun (w2 : World) (hu : Up w w2) => framingOf_walk ad a fs c mi 1 w2 (h.up hu) hl hs (hE.up hu) (range_up hK hu) (hP.up hu))
  rw [hnf] at HFm
  have HNf := Hid.of hnf
  clear h hs hE hK hP hnf hl
  obtain ⟨rv, hrv⟩ : ∃ rv, frR ad (rsF st fs mi) = rv := ⟨_, rfl⟩
  have HR := Hid.of hrv
  rw [hrv]
  clear hrv
  unfold rsF at HR
  go_enter Tryz.func56, Tryz.ntmps56
  go_wp2_with (with_reducible show wpList _ _ _ ({ dst := _, op := Op.fieldAddr 33 _ _, type := _, pos := _, after := _, guard := _ } :: _) _ _; refine Shut.out ?_)
  show wpList _ _ _ _ _ _
  obtain ⟨w1, hw1⟩ : ∃ w1, (w.alloc (.cells #[.int .i64 st, .int .i64 mi, .slice a nf c, vb, .bool cl] 33)).alloc (.cells z2.toArray 101) = w1 := ⟨_, rfl⟩
  change wpList _ _ _ _ _ ((w.alloc (.cells #[.int .i64 st, .int .i64 mi, .slice a nf c, vb, .bool cl] 33)).alloc (.cells z2.toArray 101))
  rw [hw1]
  have hA1 : At w1 w.heap.size 33 [.int .i64 st, .int .i64 mi, .slice a nf c, vb, .bool cl] := by rw [← hw1]; exact HA1.out
  have hZ1 : At w1 (w.heap.size + 1) 101 z2 := by rw [← hw1]; exact HZ1.out
  have hU1 : Up w w1 := by rw [← hw1]; exact HU1.out
  clear hw1 HA1 HZ1 HU1
  have HA1 := Hid.of hA1
  have HZ1 := Hid.of hZ1
  have HU1 := Hid.of hU1
  have k0 : w1.cell? ⟨w.heap.size, 0, none⟩ = some (.int .i64 st) := hA1.cell (i := 0) rfl
  clear hA1 hZ1 hU1
  have HBd := Hid.of (isBodiless_walk st w1)
  cases hb : bdl st with
  | true =>
    rw [hb] at HBd HR
    have HE := Hid.of (show rv = .tuple #[.agg #[.int .i64 0, .int .i64 0], .nilIface] by rw [← HR.out]; rfl)
    clear hb
    go_wp2_with fail
    refine (HBd.out).mono ?_
    rintro e w9 ⟨rfl, h9⟩
    obtain rfl := h9.symm
    clear h9
    dsimp only
    go_wp2_with (with_reducible show wpList _ _ _ ({ dst := _, op := Op.store 101 _ _, type := _, pos := _, after := _, guard := _ } :: _) _ _; refine Shut.out ?_)
    show wpList _ _ _ _ _ _
    refine wpList_store_at rfl 101 _ _ rfl (w.heap.size + 1) HZ1.out [.int .i64 0, .int .i64 0] rfl rfl rfl (by kernel_rfl) (by kernel_rfl) ?_
    intro w8 hA8 hg8
    have HA8 := Hid.of hA8
    have HU8 := Hid.of (HU1.out.by hg8 (fun g hg => by have := Option.some.inj hg; omega))
    clear hA8 hg8
    simp only [Act.put]
    repeat go_step
    refine bodyPost_ret (result_cell_tmp Tryz.results56 _ _ (w.heap.size + 1) [.int .i64 0, .int .i64 0] _ rfl rfl HA8.out.range Tryz.underlying101 rfl (by kernel_rfl)) rfl ?_
    rw [HE.out]
    exact ⟨rfl, HU8.out⟩
  | false =>
    rw [hb] at HBd HR
    have HR3 := Hid.of (show rv = frR ad (frm fs mi 1) by rw [← HR.out]; rfl)
    clear hb HR
    have k2 : w1.cell? ⟨w.heap.size, 2, none⟩ = some (.slice a nf c) := HA1.out.cell (i := 2) rfl
    have k1 : w1.cell? ⟨w.heap.size, 1, none⟩ = some (.int .i64 mi) := HA1.out.cell (i := 1) rfl
    have HFB := Hid.of (HFm.out w1 HU1.out)
    rw [← HR3.out] at HFB
    obtain ⟨cs, vr, hcs, hcl, hc1⟩ : ∃ (cs : List Value) (vr : Value), rv = .tuple #[.agg cs.toArray, vr] ∧ cs.length = 2 ∧ cs.toArray.all (·.oneCell') = true := by
      rw [HR3.out]
      unfold frR
      split
      · exact ⟨z2, _, rfl, rfl, by kernel_rfl⟩
      · exact ⟨[_, _], _, rfl, rfl, by kernel_rfl⟩
    rw [hcs] at HFB
    have HE := Hid.of hcs
    clear hcs HR3
    go_wp2_with fail
    refine (HBd.out).mono ?_
    rintro e w9 ⟨rfl, h9⟩
    obtain rfl := h9.symm
    clear h9
    dsimp only
    go_wp2_with fail
    refine HFB.out.mono ?_
    rintro e w6 ⟨rfl, h9⟩
    have HU6 := Hid.of (HU1.out.trans h9)
    have HZ6 := Hid.of (HZ1.out.up h9)
    clear h9
    dsimp only
    go_wp2_with (with_reducible show wpList _ _ _ ({ dst := _, op := Op.store 101 _ _, type := _, pos := _, after := _, guard := _ } :: _) _ _; refine Shut.out ?_)
    show wpList _ _ _ _ _ _
    refine wpList_store_at rfl 101 _ _ rfl (w.heap.size + 1) HZ6.out cs rfl rfl hcl (by rw [List.size_toArray, hcl]; kernel_rfl) hc1 ?_
    intro w8 hA8 hg8
    have HA8 := Hid.of hA8
    have HU8 := Hid.of (HU6.out.by hg8 (fun g hg => by have := Option.some.inj hg; omega))
    clear hA8 hg8
    simp only [Act.put]
    repeat go_step
    refine bodyPost_ret (result_cell_tmp Tryz.results56 _ _ (w.heap.size + 1) cs _ rfl rfl HA8.out.range Tryz.underlying101 rfl (by rw [hcl]; kernel_rfl)) rfl ?_
    rw [HE.out]
    exact ⟨rfl, HU8.out⟩
end Go.Proofs.YtmhelmkninpaoaaGreatDoor
