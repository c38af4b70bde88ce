import Derived.Test.YtbgjnghjddcooaaGreatDoorZc
namespace Go.Proofs.YtbgjnghjddcooaaGreatDoor
open Go.RowKit Go.Shelf TextNum
/-- three digits -/
def rsO (l : List UInt8) : Bool := decide (l.length = 3) && l.all isD
def rsN (l : List UInt8) : Nat := if rsO l = true then nv l else 0
def bd3 (i k : Nat) : Prop := (i = 0 ∧ k = 0) ∨ (i = 1 ∧ k ≤ 9) ∨ (i = 2 ∧ k ≤ 99) ∨ (i = 3 ∧ k ≤ 999)
theorem isD_iff' {c : UInt8} : isD c = true ↔ 48 ≤ c.toNat ∧ c.toNat ≤ 57 := by simp [isD]
theorem wrapu8 (z : Int) (h0 : 0 ≤ z) (h1 : z < 256) : IntKind.u8.wrap z = z := by
  simp only [IntKind.wrap, IntKind.signed, IntKind.bits]
  simp
  omega
set_option maxRecDepth 100000 in
set_option maxHeartbeats 1000000 in
theorem readStatus_walk (s : ByteArray) (w : World) : Calls Tryz.prog 88 #[.string s] w fun e w' => e = .returned (.tuple #[.int .i64 (rsN s.data.toList : Int), .bool (rsO s.data.toList)]) ∧ w' = w := by
  have HS := Hid.of (Go.Lib.size_eq s)
  obtain ⟨L, hL⟩ : ∃ L, s.data.toList = L := ⟨_, rfl⟩
  have HL := Hid.of hL
  rw [hL] at HS ⊢
  obtain ⟨rn, hrn⟩ : ∃ rn, rsN L = rn := ⟨_, rfl⟩
  obtain ⟨ro, hro⟩ : ∃ ro, rsO L = ro := ⟨_, rfl⟩
  have HR := Hid.of (And.intro hrn hro)
  rw [hrn, hro]
  clear hrn hro hL
  by_cases h3 : s.size = 3
  · have h3z : ((s.size : Int) != 3) = false := by rw [h3]; rfl
    have h3s : (s.size : Int) = 3 := by omega
    have HL3 := Hid.of (show L.length = 3 by rw [← HS.out]; exact h3)
    go_enter Tryz.func88, Tryz.ntmps88
    go_wp2
    go_loop [4, 11] (fun v4 v11 => ∃ i k : Nat, v11 = .int .i64 (i : Int) ∧ v4 = .int .i64 (k : Int) ∧ i ≤ 3 ∧ bd3 i k ∧ Hid ((L.take i).all isD = true ∧ nv (L.take i) = k)) (fun _ v11 => 3 - (intOf v11).toNat)
    case atStart => exact ⟨0, 0, rfl, rfl, by omega, .inl ⟨rfl, rfl⟩, Hid.of ⟨by simp, by simp [nv, nvf]⟩⟩
    case round =>
      obtain ⟨i, k, rfl, rfl, hi, hb, hI⟩ := hrel
      by_cases hlt : i < 3
      · have hlt' : (i : Int) < 3 := by omega
        have his : i < s.size := by omega
        have ht : L.take (i + 1) = L.take i ++ [s[i]] := by
          have := take_succ0 (l := L) (i := i) (by rw [← HS.out]; exact his)
          rw [this]
          simp only [sget' s i his, HL.out]
        by_cases hd : isD s[i] = true
        · have hd' := isD_iff'.1 hd
          have HN := Hid.of (show (L.take (i + 1)).all isD = true by rw [ht, List.all_append, hI.out.1]; simp [hd])
          have HV := Hid.of (show nv (L.take (i + 1)) = 10 * k + (s[i].toNat - 48) by rw [ht, nv_snoc, hI.out.2])
          have HD := Hid.of (isDigit_walk s[i] w)
          rw [hd] at HD
          have hb2 : bd3 (i + 1) (10 * k + (s[i].toNat - 48)) ∧ k ≤ 99 := by unfold bd3 at hb ⊢; omega
          have hw1 : IntKind.i64.wrap (10 * (k : Int)) = 10 * (k : Int) := wrapk _ (by omega) (by omega)
          have hw2 : IntKind.u8.wrap ((s[i].toNat : Int) - 48) = (s[i].toNat : Int) - 48 := wrapu8 _ (by omega) (by omega)
          have hw3 : IntKind.i64.wrap ((s[i].toNat : Int) - 48) = (s[i].toNat : Int) - 48 := wrapk _ (by omega) (by omega)
          have hw4 : IntKind.i64.wrap (10 * (k : Int) + ((s[i].toNat : Int) - 48)) = 10 * (k : Int) + ((s[i].toNat : Int) - 48) := wrapk _ (by omega) (by omega)
          clear ht hd
          go_wp2_with fail
          refine (HD.out).mono ?_
          rintro e w9 ⟨rfl, h9⟩
          obtain rfl := h9.symm
          clear h9
          dsimp only
          go_wp2
          go_round
          case rel => exact ⟨i + 1, 10 * k + (s[i].toNat - 48), by go_num, by simp only [Value.int.injEq, true_and]; omega, by omega, hb2.1, HN.out, HV.out⟩
          case measure => simp [intOf]; omega
        · have hno : L.all isD = false := by
            rw [List.all_eq_false]
            refine ⟨s[i], ?_, hd⟩
            have hli : i < L.length := by rw [← HS.out]; exact his
            have : s[i] = L[i] := by simp only [sget' s i his, HL.out]
            rw [this]
            exact List.getElem_mem hli
          have HE := Hid.of (show rn = 0 ∧ ro = false by
            have hO : rsO L = false := by unfold rsO; rw [hno, Bool.and_false]
            rw [← HR.out.1, ← HR.out.2]
            unfold rsN
            rw [hO]
            exact ⟨rfl, rfl⟩)
          have hdf : isD s[i] = false := by simpa using hd
          have HD := Hid.of (isDigit_walk s[i] w)
          rw [hdf] at HD
          clear ht hd hno hdf
          go_wp2_with fail
          refine (HD.out).mono ?_
          rintro e w9 ⟨rfl, h9⟩
          obtain rfl := h9.symm
          clear h9
          dsimp only
          go_wp2
          go_ret2
          rw [HE.out.1, HE.out.2]
          exact ⟨rfl, rfl⟩
      · have hlt' : ¬ (i : Int) < 3 := by omega
        have hi3 : i = 3 := by omega
        have HE := Hid.of (show rn = k ∧ ro = true by
          have h1 := hI.out
          rw [hi3, List.take_of_length_le (by rw [HL3.out]; omega)] at h1
          have hO : rsO L = true := by unfold rsO; rw [HL3.out, h1.1]; rfl
          rw [← HR.out.1, ← HR.out.2]
          unfold rsN
          rw [hO, h1.2]
          exact ⟨rfl, rfl⟩)
        clear hi3
        go_wp2
        go_ret2
        rw [HE.out.1, HE.out.2]
        exact ⟨rfl, rfl⟩
  · have h3z : ((s.size : Int) != 3) = true := by simp; omega
    have HE := Hid.of (show rn = 0 ∧ ro = false by
      have hO : rsO L = false := by unfold rsO; rw [decide_eq_false (by rw [← HS.out]; exact h3)]; rfl
      rw [← HR.out.1, ← HR.out.2]
      unfold rsN
      rw [hO]
      exact ⟨rfl, rfl⟩)
    go_enter Tryz.func88, Tryz.ntmps88
    go_wp2
    go_ret2
    rw [HE.out.1, HE.out.2]
    exact ⟨rfl, rfl⟩
/-- a response without anything -/
def z5 : List Value := [.int .i64 0, .int .i64 0, .slice none 0 0, .slice none 0 0, .bool false]
/-- a response's first line -/
def rsl (l : List UInt8) : Er (Nat × Int) :=
  if (rsO (c1 32 (c2 32 l)) && (vok (c1 32 l) && vlu (c2 32 (c2 32 l)))) = false then .error 3
  else match mno ⟨(c1 32 l).toArray⟩ with
    | .error k => .error k
    | .ok n => if sto (rsN (c1 32 (c2 32 l)) : Int) = false then .error 11 else .ok (rsN (c1 32 (c2 32 l)), n)
def slR (ad : Nat → Addr) : Er (Nat × Int) → Value
  | .error k => .tuple #[.agg z5.toArray, ev (ad k)]
  | .ok (s, n) => .tuple #[.agg #[.int .i64 (s : Int), .int .i64 n, .slice none 0 0, .slice none 0 0, .bool false], .nilIface]
theorem rsl_er {l : List UInt8} {k : Nat} (h : rsl l = .error k) : k < 12 := by
  unfold rsl at h
  split at h
  · injection h with h; omega
  · split at h
    · rename_i hm
      injection h with h
      have := mno_er hm
      omega
    · split at h
      · injection h with h; omega
      · cases h
set_option maxRecDepth 100000 in
set_option maxHeartbeats 2000000 in
theorem readStatusLine_walk (ad : Nat → Addr) (s : ByteArray) (hs : s.size ≤ 1048576) (w : World) (h : GE w ad) (hN : GN w) : Calls Tryz.prog 55 #[.string s] w fun e w' => e = .returned (slR ad (rsl s.data.toList)) ∧ Up w w' := by
  have HG := Hid.of h
  have HNN := Hid.of hN
  clear h hN
  have HA0 := Hid.of (at_new w 33 z5)
  have HU0 := Hid.of ((Up.refl w).alloc (.cells z5.toArray 33))
  obtain ⟨L, hL⟩ : ∃ L, s.data.toList = L := ⟨_, rfl⟩
  have hC1 := fun w => Cut_up s (by omega) 32 w
  have hl1 := c_len 32 L
  have hl2 := c_len 32 (c2 32 L)
  have hLs : L.length = s.size := by rw [← hL, ← Go.Lib.size_eq]
  rw [hL] at hC1 ⊢
  clear hL
  obtain ⟨rv, hrv⟩ : ∃ rv, slR ad (rsl L) = rv := ⟨_, rfl⟩
  have HR := Hid.of hrv
  rw [hrv]
  clear hrv
  unfold rsl at HR
  obtain ⟨m, hm⟩ : ∃ m : ByteArray, (⟨(c1 32 L).toArray⟩ : ByteArray) = m := ⟨_, rfl⟩
  obtain ⟨r, hr⟩ : ∃ r : ByteArray, (⟨(c2 32 L).toArray⟩ : ByteArray) = r := ⟨_, rfl⟩
  have hmd : c1 32 L = m.data.toList := by rw [← hm]
  have hrd : c2 32 L = r.data.toList := by rw [← hr]
  have hms : m.size ≤ 1048576 := by rw [Go.Lib.size_eq, ← hmd]; omega
  have hrs : r.size ≤ 1048576 := by rw [Go.Lib.size_eq, ← hrd]; omega
  have hC2 := fun w => Cut_up r (by omega) 32 w
  rw [hmd, vs_data', hrd, vs_data'] at hC1
  rw [hm, hmd, hrd] at HR
  rw [hrd] at hl2
  obtain ⟨t, ht⟩ : ∃ t : ByteArray, (⟨(c1 32 r.data.toList).toArray⟩ : ByteArray) = t := ⟨_, rfl⟩
  obtain ⟨v, hv⟩ : ∃ v : ByteArray, (⟨(c2 32 r.data.toList).toArray⟩ : ByteArray) = v := ⟨_, rfl⟩
  have htd : c1 32 r.data.toList = t.data.toList := by rw [← ht]
  have hvd : c2 32 r.data.toList = v.data.toList := by rw [← hv]
  have hvs : v.size ≤ 1048576 := by rw [Go.Lib.size_eq, ← hvd]; rw [Go.Lib.size_eq] at hrs; omega
  rw [htd, vs_data', hvd, vs_data'] at hC2
  rw [htd, hvd] at HR
  generalize (Go.Lib.cut L [32]).2.2 = bb1 at *
  generalize (Go.Lib.cut r.data.toList [32]).2.2 = bb2 at *
  have HC1 := Hid.of hC1
  have HC2 := Hid.of hC2
  clear hC1 hC2 hm hr ht hv hmd hrd htd hvd hl1 hl2 hLs
  go_enter Tryz.func55, Tryz.ntmps55
  go_wp2_with fail
  change Calls _ _ _ (w.alloc (.cells z5.toArray 33)) _
  generalize w.alloc (.cells z5.toArray 33) = w1 at *
  refine (HC1.out w1).mono ?_
  rintro e w2 ⟨rfl, h9⟩
  have HU2 := Hid.of (HU0.out.trans h9)
  have HA2 := Hid.of (HA0.out.up h9)
  clear h9
  dsimp only
  go_wp2_with fail
  refine (HC2.out w2).mono ?_
  rintro e w3 ⟨rfl, h9⟩
  have HU3 := Hid.of (HU2.out.trans h9)
  have HA3 := Hid.of (HA2.out.up h9)
  clear h9
  dsimp only
  have HRS := Hid.of (readStatus_walk t w3)
  obtain ⟨sn, hsn⟩ : ∃ sn, rsN t.data.toList = sn := ⟨_, rfl⟩
  rw [hsn] at HRS HR
  clear hsn
  go_wp2_with fail
  refine (HRS.out).mono ?_
  rintro e w9 ⟨rfl, h9⟩
  obtain rfl := h9.symm
  clear h9
  dsimp only
  cases hk : rsO t.data.toList with
  | false =>
    rw [hk] at HR
    have HE := Hid.of (show rv = slR ad (.error 3) by rw [← HR.out]; rfl)
    clear hk
    go_wp2
    refine wp_region_held_drew (S := fun w2 => (∃ cs, cs.length = 5 ∧ At w2 w.heap.size 33 cs) ∧ GE w2 ad ∧ Up w w2) (by kernel_rfl) ⟨⟨z5, rfl, HA3.out.up (Up.refl _).drew⟩, HG.out.up HU3.out.drew, HU3.out.drew⟩ (fun hS => ?_)
    refine wpAnyH_take (i := 0) (oi := { dst := some 43, op := Go.Op.build 33 #[], type := 33, pos := "start.go:73", after := #[], guard := none }) (v := .agg z5.toArray) rfl (by kernel_rfl) (by kernel_rfl) (by kernel_rfl) (fun _ _ _ h => h) (Or.inl ⟨by kernel_rfl, ?_⟩) hS ?_
    · intro w5 hSw
      clear hSw hS
      go_simp
      rfl
    simp only [Act.put, List.setIfInBounds_toArray, List.set_cons_zero, List.set_cons_succ]
    refine wpAnyH_take (i := 1) (oi := { dst := some 44, op := Go.Op.load 66 (Go.Operand.global 1), type := 66, pos := "start.go:73", after := #[{ on := 2, ground := Go.Ground.gcOnly Go.Departure.lateStores }], guard := none }) (v := ev (ad 3)) rfl (by kernel_rfl) (by kernel_rfl) (by kernel_rfl) (fun _ _ _ h => h) (Or.inl ⟨by kernel_rfl, ?_⟩) hS ?_
    · intro w5 hSw
      have hgl : w5.cell? ⟨1, 0, none⟩ = _ := hSw.2.1.gl 3 (by decide)
      clear hSw hS
      go_simp
    simp only [Act.put, List.setIfInBounds_toArray, List.set_cons_zero, List.set_cons_succ]
    refine wpAnyH_ready (rs := [2]) (by kernel_rfl) (by simp) ?_
    refine AllReadyH.cons (o := { dst := none, op := Go.Op.store 33 (Go.Operand.tmp 2) (Go.Operand.tmp 43), type := 0, pos := "start.go:73", after := #[{ on := 0, ground := Go.Ground.data }, { on := 0, ground := Go.Ground.phase }, { on := 1, ground := Go.Ground.textOnly Go.Departure.lateStores }], guard := none }) rfl (fun K hK => oper_of_list ?_) AllReadyH.nil
    obtain ⟨⟨cs, hcl, hcs2⟩, hS1, hS2⟩ := hS
    refine wpList_store_at rfl 33 _ _ rfl (w.heap.size) hcs2 z5 rfl rfl hcl.symm (by kernel_rfl) (by kernel_rfl) ?_
    intro w8 hA8 hg8
    have HA8 := Hid.of hA8
    have HU8 := Hid.of (hS2.by hg8 (fun g hg => by have := Option.some.inj hg; omega))
    clear hA8 hg8 hcs2 hS2 hS1
    refine hK.out _ _ ⟨⟨_, rfl, HA8.out⟩, HG.out.up HU8.out, HU8.out⟩ (fun hS => ?_)
    clear hK K
    refine wpAnyH_take (i := 3) (oi := { dst := some 3, op := Go.Op.assign (Go.Operand.tmp 44), type := 66, pos := "start.go:73", after := #[{ on := 1, ground := Go.Ground.data }, { on := 2, ground := Go.Ground.chain }, { on := 0, ground := Go.Ground.phase }, { on := 1, ground := Go.Ground.phase }, { on := 2, ground := Go.Ground.phase }], guard := none }) (v := ev (ad 3)) rfl (by kernel_rfl) (by kernel_rfl) (by kernel_rfl) (fun _ _ _ h => h) (Or.inl ⟨by kernel_rfl, ?_⟩) hS ?_
    · intro w5 hSw
      clear hSw hS
      go_simp
    simp only [Act.put, List.setIfInBounds_toArray, List.set_cons_zero, List.set_cons_succ]
    clear hS
    refine wpAnyH_done (by kernel_rfl) ?_ _
    repeat go_step
    refine bodyPost_ret (result_cell_tmp Tryz.results55 _ _ (w.heap.size) z5 _ rfl rfl HA8.out.range Tryz.underlying33 rfl (by kernel_rfl)) rfl ?_
    rw [HE.out]
    exact ⟨rfl, HU8.out⟩
  | true =>
    rw [hk] at HR
    clear hk
    have HVr := Hid.of (isVersion_walk m w3)
    cases hv0 : vok m.data.toList with
    | false =>
      rw [hv0] at HR HVr
      have HE := Hid.of (show rv = slR ad (.error 3) by rw [← HR.out]; rfl)
      clear hv0
      go_wp2_with fail
      refine (HVr.out).mono ?_
      rintro e w9 ⟨rfl, h9⟩
      obtain rfl := h9.symm
      clear h9
      dsimp only
      go_wp2
      refine wp_region_held_drew (S := fun w2 => (∃ cs, cs.length = 5 ∧ At w2 w.heap.size 33 cs) ∧ GE w2 ad ∧ Up w w2) (by kernel_rfl) ⟨⟨z5, rfl, HA3.out.up (Up.refl _).drew⟩, HG.out.up HU3.out.drew, HU3.out.drew⟩ (fun hS => ?_)
      refine wpAnyH_take (i := 0) (oi := { dst := some 43, op := Go.Op.build 33 #[], type := 33, pos := "start.go:73", after := #[], guard := none }) (v := .agg z5.toArray) rfl (by kernel_rfl) (by kernel_rfl) (by kernel_rfl) (fun _ _ _ h => h) (Or.inl ⟨by kernel_rfl, ?_⟩) hS ?_
      · intro w5 hSw
        clear hSw hS
        go_simp
        rfl
      simp only [Act.put, List.setIfInBounds_toArray, List.set_cons_zero, List.set_cons_succ]
      refine wpAnyH_take (i := 1) (oi := { dst := some 44, op := Go.Op.load 66 (Go.Operand.global 1), type := 66, pos := "start.go:73", after := #[{ on := 2, ground := Go.Ground.gcOnly Go.Departure.lateStores }], guard := none }) (v := ev (ad 3)) rfl (by kernel_rfl) (by kernel_rfl) (by kernel_rfl) (fun _ _ _ h => h) (Or.inl ⟨by kernel_rfl, ?_⟩) hS ?_
      · intro w5 hSw
        have hgl : w5.cell? ⟨1, 0, none⟩ = _ := hSw.2.1.gl 3 (by decide)
        clear hSw hS
        go_simp
      simp only [Act.put, List.setIfInBounds_toArray, List.set_cons_zero, List.set_cons_succ]
      refine wpAnyH_ready (rs := [2]) (by kernel_rfl) (by simp) ?_
      refine AllReadyH.cons (o := { dst := none, op := Go.Op.store 33 (Go.Operand.tmp 2) (Go.Operand.tmp 43), type := 0, pos := "start.go:73", after := #[{ on := 0, ground := Go.Ground.data }, { on := 0, ground := Go.Ground.phase }, { on := 1, ground := Go.Ground.textOnly Go.Departure.lateStores }], guard := none }) rfl (fun K hK => oper_of_list ?_) AllReadyH.nil
      obtain ⟨⟨cs, hcl, hcs2⟩, hS1, hS2⟩ := hS
      refine wpList_store_at rfl 33 _ _ rfl (w.heap.size) hcs2 z5 rfl rfl hcl.symm (by kernel_rfl) (by kernel_rfl) ?_
      intro w8 hA8 hg8
      have HA8 := Hid.of hA8
      have HU8 := Hid.of (hS2.by hg8 (fun g hg => by have := Option.some.inj hg; omega))
      clear hA8 hg8 hcs2 hS2 hS1
      refine hK.out _ _ ⟨⟨_, rfl, HA8.out⟩, HG.out.up HU8.out, HU8.out⟩ (fun hS => ?_)
      clear hK K
      refine wpAnyH_take (i := 3) (oi := { dst := some 3, op := Go.Op.assign (Go.Operand.tmp 44), type := 66, pos := "start.go:73", after := #[{ on := 1, ground := Go.Ground.data }, { on := 2, ground := Go.Ground.chain }, { on := 0, ground := Go.Ground.phase }, { on := 1, ground := Go.Ground.phase }, { on := 2, ground := Go.Ground.phase }], guard := none }) (v := ev (ad 3)) rfl (by kernel_rfl) (by kernel_rfl) (by kernel_rfl) (fun _ _ _ h => h) (Or.inl ⟨by kernel_rfl, ?_⟩) hS ?_
      · intro w5 hSw
        clear hSw hS
        go_simp
      simp only [Act.put, List.setIfInBounds_toArray, List.set_cons_zero, List.set_cons_succ]
      clear hS
      refine wpAnyH_done (by kernel_rfl) ?_ _
      repeat go_step
      refine bodyPost_ret (result_cell_tmp Tryz.results55 _ _ (w.heap.size) z5 _ rfl rfl HA8.out.range Tryz.underlying33 rfl (by kernel_rfl)) rfl ?_
      rw [HE.out]
      exact ⟨rfl, HU8.out⟩
    | true =>
      rw [hv0] at HR HVr
      clear hv0
      have HVl := Hid.of (mayBeValue_walk v (by omega) w3)
      go_wp2_with fail
      refine (HVr.out).mono ?_
      rintro e w9 ⟨rfl, h9⟩
      obtain rfl := h9.symm
      clear h9
      dsimp only
      cases hvl : vlu v.data.toList with
      | false =>
        rw [hvl] at HR HVl
        have HE := Hid.of (show rv = slR ad (.error 3) by rw [← HR.out]; rfl)
        clear hvl
        go_wp2_with fail
        refine (HVl.out).mono ?_
        rintro e w4 ⟨rfl, h9⟩
        have HU4 := Hid.of (HU3.out.trans h9)
        have HA4 := Hid.of (HA3.out.up h9)
        clear h9
        dsimp only
        go_wp2
        refine wp_region_held_drew (S := fun w2 => (∃ cs, cs.length = 5 ∧ At w2 w.heap.size 33 cs) ∧ GE w2 ad ∧ Up w w2) (by kernel_rfl) ⟨⟨z5, rfl, HA4.out.up (Up.refl _).drew⟩, HG.out.up HU4.out.drew, HU4.out.drew⟩ (fun hS => ?_)
        refine wpAnyH_take (i := 0) (oi := { dst := some 43, op := Go.Op.build 33 #[], type := 33, pos := "start.go:73", after := #[], guard := none }) (v := .agg z5.toArray) rfl (by kernel_rfl) (by kernel_rfl) (by kernel_rfl) (fun _ _ _ h => h) (Or.inl ⟨by kernel_rfl, ?_⟩) hS ?_
        · intro w5 hSw
          clear hSw hS
          go_simp
          rfl
        simp only [Act.put, List.setIfInBounds_toArray, List.set_cons_zero, List.set_cons_succ]
        refine wpAnyH_take (i := 1) (oi := { dst := some 44, op := Go.Op.load 66 (Go.Operand.global 1), type := 66, pos := "start.go:73", after := #[{ on := 2, ground := Go.Ground.gcOnly Go.Departure.lateStores }], guard := none }) (v := ev (ad 3)) rfl (by kernel_rfl) (by kernel_rfl) (by kernel_rfl) (fun _ _ _ h => h) (Or.inl ⟨by kernel_rfl, ?_⟩) hS ?_
        · intro w5 hSw
          have hgl : w5.cell? ⟨1, 0, none⟩ = _ := hSw.2.1.gl 3 (by decide)
          clear hSw hS
          go_simp
        simp only [Act.put, List.setIfInBounds_toArray, List.set_cons_zero, List.set_cons_succ]
        refine wpAnyH_ready (rs := [2]) (by kernel_rfl) (by simp) ?_
        refine AllReadyH.cons (o := { dst := none, op := Go.Op.store 33 (Go.Operand.tmp 2) (Go.Operand.tmp 43), type := 0, pos := "start.go:73", after := #[{ on := 0, ground := Go.Ground.data }, { on := 0, ground := Go.Ground.phase }, { on := 1, ground := Go.Ground.textOnly Go.Departure.lateStores }], guard := none }) rfl (fun K hK => oper_of_list ?_) AllReadyH.nil
        obtain ⟨⟨cs, hcl, hcs2⟩, hS1, hS2⟩ := hS
        refine wpList_store_at rfl 33 _ _ rfl (w.heap.size) hcs2 z5 rfl rfl hcl.symm (by kernel_rfl) (by kernel_rfl) ?_
        intro w8 hA8 hg8
        have HA8 := Hid.of hA8
        have HU8 := Hid.of (hS2.by hg8 (fun g hg => by have := Option.some.inj hg; omega))
        clear hA8 hg8 hcs2 hS2 hS1
        refine hK.out _ _ ⟨⟨_, rfl, HA8.out⟩, HG.out.up HU8.out, HU8.out⟩ (fun hS => ?_)
        clear hK K
        refine wpAnyH_take (i := 3) (oi := { dst := some 3, op := Go.Op.assign (Go.Operand.tmp 44), type := 66, pos := "start.go:73", after := #[{ on := 1, ground := Go.Ground.data }, { on := 2, ground := Go.Ground.chain }, { on := 0, ground := Go.Ground.phase }, { on := 1, ground := Go.Ground.phase }, { on := 2, ground := Go.Ground.phase }], guard := none }) (v := ev (ad 3)) rfl (by kernel_rfl) (by kernel_rfl) (by kernel_rfl) (fun _ _ _ h => h) (Or.inl ⟨by kernel_rfl, ?_⟩) hS ?_
        · intro w5 hSw
          clear hSw hS
          go_simp
        simp only [Act.put, List.setIfInBounds_toArray, List.set_cons_zero, List.set_cons_succ]
        clear hS
        refine wpAnyH_done (by kernel_rfl) ?_ _
        repeat go_step
        refine bodyPost_ret (result_cell_tmp Tryz.results55 _ _ (w.heap.size) z5 _ rfl rfl HA8.out.range Tryz.underlying33 rfl (by kernel_rfl)) rfl ?_
        rw [HE.out]
        exact ⟨rfl, HU8.out⟩
      | true =>
        rw [hvl] at HR HVl
        have HR2 := Hid.of (show rv = slR ad (match mno m with | .error k => .error k | .ok n => if sto (sn : Int) = false then .error 11 else .ok (sn, n)) by rw [← HR.out]; rfl)
        clear hvl HR
        go_wp2_with fail
        refine (HVl.out).mono ?_
        rintro e w4 ⟨rfl, h9⟩
        have HU4 := Hid.of (HU3.out.trans h9)
        have HA4 := Hid.of (HA3.out.up h9)
        clear h9
        dsimp only
        have HMo := Hid.of (minorOf_walk ad m w4 (HG.out.up HU4.out) (HNN.out.up HU4.out))
        go_wp2_with fail
        refine (HMo.out).mono ?_
        rintro e w5 ⟨rfl, h9⟩
        have HU5 := Hid.of (HU4.out.trans h9)
        have HA5 := Hid.of (HA4.out.up h9)
        clear h9
        dsimp only
        cases hmo : mno m with
        | error k =>
          have hk4 := mno_er hmo
          subst hk4
          rw [hmo] at HR2
          have HE := Hid.of (show rv = slR ad (.error 4) from HR2.out)
          unfold mnR
          dsimp only
          clear hmo
          go_wp2_with (with_reducible show wpList _ _ _ ({ dst := _, op := Op.store 33 _ _, type := _, pos := _, after := _, guard := _ } :: _) _ _; refine Shut.out ?_)
          show wpList _ _ _ _ _ _
          refine wpList_store_at rfl 33 _ _ rfl (w.heap.size) HA5.out z5 rfl rfl rfl (by kernel_rfl) (by kernel_rfl) ?_
          intro w8 hA8 hg8
          have HA8 := Hid.of hA8
          have HU8 := Hid.of (HU5.out.by hg8 (fun g hg => by have := Option.some.inj hg; omega))
          clear hA8 hg8
          simp only [Act.put]
          repeat go_step
          refine bodyPost_ret (result_cell_tmp Tryz.results55 _ _ (w.heap.size) z5 _ rfl rfl HA8.out.range Tryz.underlying33 rfl (by kernel_rfl)) rfl ?_
          rw [HE.out]
          exact ⟨rfl, HU8.out⟩
        | ok mi =>
          rw [hmo] at HR2
          unfold mnR
          dsimp only at HR2 ⊢
          clear hmo
          have HSt := Hid.of (isStatus_walk (sn : Int) w5)
          cases hst : sto (sn : Int) with
          | false =>
            rw [hst] at HR2 HSt
            have HE := Hid.of (show rv = slR ad (.error 11) by rw [HR2.out]; rfl)
            clear hst
            go_wp2_with fail
            refine (HSt.out).mono ?_
            rintro e w9 ⟨rfl, h9⟩
            obtain rfl := h9.symm
            clear h9
            dsimp only
            go_wp2
            refine wp_region_held_drew (S := fun w2 => (∃ cs, cs.length = 5 ∧ At w2 w.heap.size 33 cs) ∧ GE w2 ad ∧ Up w w2) (by kernel_rfl) ⟨⟨z5, rfl, HA5.out.up (Up.refl _).drew⟩, HG.out.up HU5.out.drew, HU5.out.drew⟩ (fun hS => ?_)
            refine wpAnyH_take (i := 0) (oi := { dst := some 57, op := Go.Op.build 33 #[], type := 33, pos := "start.go:80", after := #[], guard := none }) (v := .agg z5.toArray) rfl (by kernel_rfl) (by kernel_rfl) (by kernel_rfl) (fun _ _ _ h => h) (Or.inl ⟨by kernel_rfl, ?_⟩) hS ?_
            · intro w5 hSw
              clear hSw hS
              go_simp
              rfl
            simp only [Act.put, List.setIfInBounds_toArray, List.set_cons_zero, List.set_cons_succ]
            refine wpAnyH_take (i := 1) (oi := { dst := some 58, op := Go.Op.load 66 (Go.Operand.global 11), type := 66, pos := "start.go:80", after := #[{ on := 2, ground := Go.Ground.gcOnly Go.Departure.lateStores }], guard := none }) (v := ev (ad 11)) rfl (by kernel_rfl) (by kernel_rfl) (by kernel_rfl) (fun _ _ _ h => h) (Or.inl ⟨by kernel_rfl, ?_⟩) hS ?_
            · intro w5 hSw
              have hgl : w5.cell? ⟨11, 0, none⟩ = _ := hSw.2.1.gl 11 (by decide)
              clear hSw hS
              go_simp
            simp only [Act.put, List.setIfInBounds_toArray, List.set_cons_zero, List.set_cons_succ]
            refine wpAnyH_ready (rs := [2]) (by kernel_rfl) (by simp) ?_
            refine AllReadyH.cons (o := { dst := none, op := Go.Op.store 33 (Go.Operand.tmp 2) (Go.Operand.tmp 57), type := 0, pos := "start.go:80", after := #[{ on := 0, ground := Go.Ground.data }, { on := 0, ground := Go.Ground.phase }, { on := 1, ground := Go.Ground.textOnly Go.Departure.lateStores }], guard := none }) rfl (fun K hK => oper_of_list ?_) AllReadyH.nil
            obtain ⟨⟨cs, hcl, hcs2⟩, hS1, hS2⟩ := hS
            refine wpList_store_at rfl 33 _ _ rfl (w.heap.size) hcs2 z5 rfl rfl hcl.symm (by kernel_rfl) (by kernel_rfl) ?_
            intro w8 hA8 hg8
            have HA8 := Hid.of hA8
            have HU8 := Hid.of (hS2.by hg8 (fun g hg => by have := Option.some.inj hg; omega))
            clear hA8 hg8 hcs2 hS2 hS1
            refine hK.out _ _ ⟨⟨_, rfl, HA8.out⟩, HG.out.up HU8.out, HU8.out⟩ (fun hS => ?_)
            clear hK K
            refine wpAnyH_take (i := 3) (oi := { dst := some 3, op := Go.Op.assign (Go.Operand.tmp 58), type := 66, pos := "start.go:80", after := #[{ on := 1, ground := Go.Ground.data }, { on := 2, ground := Go.Ground.chain }, { on := 0, ground := Go.Ground.phase }, { on := 1, ground := Go.Ground.phase }, { on := 2, ground := Go.Ground.phase }], guard := none }) (v := ev (ad 11)) rfl (by kernel_rfl) (by kernel_rfl) (by kernel_rfl) (fun _ _ _ h => h) (Or.inl ⟨by kernel_rfl, ?_⟩) hS ?_
            · intro w5 hSw
              clear hSw hS
              go_simp
            simp only [Act.put, List.setIfInBounds_toArray, List.set_cons_zero, List.set_cons_succ]
            clear hS
            refine wpAnyH_done (by kernel_rfl) ?_ _
            repeat go_step
            refine bodyPost_ret (result_cell_tmp Tryz.results55 _ _ (w.heap.size) z5 _ rfl rfl HA8.out.range Tryz.underlying33 rfl (by kernel_rfl)) rfl ?_
            rw [HE.out]
            exact ⟨rfl, HU8.out⟩
          | true =>
            rw [hst] at HR2 HSt
            have HE := Hid.of (show rv = .tuple #[.agg #[.int .i64 (sn : Int), .int .i64 mi, .slice none 0 0, .slice none 0 0, .bool false], .nilIface] by rw [HR2.out]; rfl)
            clear hst
            go_wp2_with fail
            refine (HSt.out).mono ?_
            rintro e w9 ⟨rfl, h9⟩
            obtain rfl := h9.symm
            clear h9
            dsimp only
            go_wp2_with (with_reducible show wpList _ _ _ ({ dst := _, op := Op.store 33 _ _, type := _, pos := _, after := _, guard := _ } :: _) _ _; refine Shut.out ?_)
            show wpList _ _ _ _ _ _
            refine wpList_store_at rfl 33 _ _ rfl (w.heap.size) HA5.out [.int .i64 (sn : Int), .int .i64 mi, .slice none 0 0, .slice none 0 0, .bool false] rfl rfl rfl (by kernel_rfl) (by kernel_rfl) ?_
            intro w8 hA8 hg8
            have HA8 := Hid.of hA8
            have HU8 := Hid.of (HU5.out.by hg8 (fun g hg => by have := Option.some.inj hg; omega))
            clear hA8 hg8
            simp only [Act.put]
            repeat go_step
            refine bodyPost_ret (result_cell_tmp Tryz.results55 _ _ (w.heap.size) [.int .i64 (sn : Int), .int .i64 mi, .slice none 0 0, .slice none 0 0, .bool false] _ rfl rfl HA8.out.range Tryz.underlying33 rfl (by kernel_rfl)) rfl ?_
            rw [HE.out]
            exact ⟨rfl, HU8.out⟩
/-- how a response's body is told -/
def rsF (st : Int) (fs : List FD) (mi : Int) : Er (Int × Nat) := if bdl st = true then .ok (0, 0) else frm fs mi 1
set_option maxRecDepth 100000 in
set_option maxHeartbeats 2000000 in
theorem responseFraming_walk (ad : Nat → Addr) (st mi : Int) (a : Option Addr) (fs : List FD) (c nf : Nat) (vb : Value) (cl : Bool) (hnf : fs.length = nf) (w : World) (h : FdL w a fs c) (hl : fs.length ≤ 1048576) (hs : ∀ f ∈ fs, f.v.size ≤ 1048576) (hE : GE w ad) (hK : w.rangeAt 13 0 kdC) (hP : GP w) :
    Calls Tryz.prog 56 #[.agg #[.int .i64 st, .int .i64 mi, .slice a nf c, vb, .bool cl]] w fun e w' => e = .returned (frR ad (rsF st fs mi)) ∧ Up w w' := by
  have HA0 := Hid.of (at_new w 33 [.int .i64 st, .int .i64 mi, .slice a nf c, vb, .bool cl])
  have hu0 := (Up.refl w).alloc (.cells [Value.int .i64 st, .int .i64 mi, .slice a nf c, vb, .bool cl].toArray 33)
  have hu1 := hu0.alloc (.cells z2.toArray 101)
  have HZ1 := Hid.of (at_new (w.alloc (.cells [Value.int .i64 st, .int .i64 mi, .slice a nf c, vb, .bool cl].toArray 33)) 101 z2)
  have HA1 := Hid.of (HA0.out.up ((Up.refl _).alloc (.cells z2.toArray 101)))
  have HU1 := Hid.of hu1
  have hbs : (w.alloc (.cells [Value.int .i64 st, .int .i64 mi, .slice a nf c, vb, .bool cl].toArray 33)).heap.size = w.heap.size + 1 := alloc_size _ _
  rw [hbs] at HZ1
  clear hu0 hu1 hbs HA0
  have HFm := Hid.of (fun (w2 : World) (hu : Up w w2) => framingOf_walk ad a fs c mi 1 w2 (h.up hu) hl hs (hE.up hu) (range_up hK hu) (hP.up hu))
  rw [hnf] at HFm
  have HNf := Hid.of hnf
  clear h hs hE hK hP hnf hl
  obtain ⟨rv, hrv⟩ : ∃ rv, frR ad (rsF st fs mi) = rv := ⟨_, rfl⟩
  have HR := Hid.of hrv
  rw [hrv]
  clear hrv
  unfold rsF at HR
  go_enter Tryz.func56, Tryz.ntmps56
  go_wp2_with (with_reducible show wpList _ _ _ ({ dst := _, op := Op.fieldAddr 33 _ _, type := _, pos := _, after := _, guard := _ } :: _) _ _; refine Shut.out ?_)
  show wpList _ _ _ _ _ _
  obtain ⟨w1, hw1⟩ : ∃ w1, (w.alloc (.cells #[.int .i64 st, .int .i64 mi, .slice a nf c, vb, .bool cl] 33)).alloc (.cells z2.toArray 101) = w1 := ⟨_, rfl⟩
  change wpList _ _ _ _ _ ((w.alloc (.cells #[.int .i64 st, .int .i64 mi, .slice a nf c, vb, .bool cl] 33)).alloc (.cells z2.toArray 101))
  rw [hw1]
  have hA1 : At w1 w.heap.size 33 [.int .i64 st, .int .i64 mi, .slice a nf c, vb, .bool cl] := by rw [← hw1]; exact HA1.out
  have hZ1 : At w1 (w.heap.size + 1) 101 z2 := by rw [← hw1]; exact HZ1.out
  have hU1 : Up w w1 := by rw [← hw1]; exact HU1.out
  clear hw1 HA1 HZ1 HU1
  have HA1 := Hid.of hA1
  have HZ1 := Hid.of hZ1
  have HU1 := Hid.of hU1
  have k0 : w1.cell? ⟨w.heap.size, 0, none⟩ = some (.int .i64 st) := hA1.cell (i := 0) rfl
  clear hA1 hZ1 hU1
  have HBd := Hid.of (isBodiless_walk st w1)
  cases hb : bdl st with
  | true =>
    rw [hb] at HBd HR
    have HE := Hid.of (show rv = .tuple #[.agg #[.int .i64 0, .int .i64 0], .nilIface] by rw [← HR.out]; rfl)
    clear hb
    go_wp2_with fail
    refine (HBd.out).mono ?_
    rintro e w9 ⟨rfl, h9⟩
    obtain rfl := h9.symm
    clear h9
    dsimp only
    go_wp2_with (with_reducible show wpList _ _ _ ({ dst := _, op := Op.store 101 _ _, type := _, pos := _, after := _, guard := _ } :: _) _ _; refine Shut.out ?_)
    show wpList _ _ _ _ _ _
    refine wpList_store_at rfl 101 _ _ rfl (w.heap.size + 1) HZ1.out [.int .i64 0, .int .i64 0] rfl rfl rfl (by kernel_rfl) (by kernel_rfl) ?_
    intro w8 hA8 hg8
    have HA8 := Hid.of hA8
    have HU8 := Hid.of (HU1.out.by hg8 (fun g hg => by have := Option.some.inj hg; omega))
    clear hA8 hg8
    simp only [Act.put]
    repeat go_step
    refine bodyPost_ret (result_cell_tmp Tryz.results56 _ _ (w.heap.size + 1) [.int .i64 0, .int .i64 0] _ rfl rfl HA8.out.range Tryz.underlying101 rfl (by kernel_rfl)) rfl ?_
    rw [HE.out]
    exact ⟨rfl, HU8.out⟩
  | false =>
    rw [hb] at HBd HR
    have HR3 := Hid.of (show rv = frR ad (frm fs mi 1) by rw [← HR.out]; rfl)
    clear hb HR
    have k2 : w1.cell? ⟨w.heap.size, 2, none⟩ = some (.slice a nf c) := HA1.out.cell (i := 2) rfl
    have k1 : w1.cell? ⟨w.heap.size, 1, none⟩ = some (.int .i64 mi) := HA1.out.cell (i := 1) rfl
    have HFB := Hid.of (HFm.out w1 HU1.out)
    rw [← HR3.out] at HFB
    obtain ⟨cs, vr, hcs, hcl, hc1⟩ : ∃ (cs : List Value) (vr : Value), rv = .tuple #[.agg cs.toArray, vr] ∧ cs.length = 2 ∧ cs.toArray.all (·.oneCell') = true := by
      rw [HR3.out]
      unfold frR
      split
      · exact ⟨z2, _, rfl, rfl, by kernel_rfl⟩
      · exact ⟨[_, _], _, rfl, rfl, by kernel_rfl⟩
    rw [hcs] at HFB
    have HE := Hid.of hcs
    clear hcs HR3
    go_wp2_with fail
    refine (HBd.out).mono ?_
    rintro e w9 ⟨rfl, h9⟩
    obtain rfl := h9.symm
    clear h9
    dsimp only
    go_wp2_with fail
    refine HFB.out.mono ?_
    rintro e w6 ⟨rfl, h9⟩
    have HU6 := Hid.of (HU1.out.trans h9)
    have HZ6 := Hid.of (HZ1.out.up h9)
    clear h9
    dsimp only
    go_wp2_with (with_reducible show wpList _ _ _ ({ dst := _, op := Op.store 101 _ _, type := _, pos := _, after := _, guard := _ } :: _) _ _; refine Shut.out ?_)
    show wpList _ _ _ _ _ _
    refine wpList_store_at rfl 101 _ _ rfl (w.heap.size + 1) HZ6.out cs rfl rfl hcl (by rw [List.size_toArray, hcl]; kernel_rfl) hc1 ?_
    intro w8 hA8 hg8
    have HA8 := Hid.of hA8
    have HU8 := Hid.of (HU6.out.by hg8 (fun g hg => by have := Option.some.inj hg; omega))
    clear hA8 hg8
    simp only [Act.put]
    repeat go_step
    refine bodyPost_ret (result_cell_tmp Tryz.results56 _ _ (w.heap.size + 1) cs _ rfl rfl HA8.out.range Tryz.underlying101 rfl (by rw [hcl]; kernel_rfl)) rfl ?_
    rw [HE.out]
    exact ⟨rfl, HU8.out⟩
end Go.Proofs.YtbgjnghjddcooaaGreatDoor
namespace Go.Proofs.YtbgjnghjddcooaaGreatDoor
open Go.RowKit Go.Shelf TextNum
theorem exec_load5 {o : Oper} {ρ : Operand → Value} {x : Operand} {w : World} {b : Nat} {cs : List Value} (ho : o.op = .load 33 x) (hx : ρ x = .pointer (some ⟨b, 0, none⟩)) (h : w.rangeAt b 0 cs) (hl : (Tryz.prog.info? 33).map (·.size) = some cs.length := by kernel_rfl) : (execOp ρ o).run Tryz.prog w = .ok (.value (.agg cs.toArray)) w := by
  unfold execOp
  simp only [ho, hx]
  have := run_loadAt_mid (P := Tryz.prog) w b 0 33 cs _ h Tryz.underlying33 rfl hl
  simp [this]
/-- a response but for its body -/
structure Rs where
  st : Nat
  mi : Int
  fs : List FD
def rsg (st fl : List UInt8) : Er (Rs × Int × Nat) := match rsl st with
  | .error e => .error e
  | .ok (s, mi) => match rdf fl with
    | .error e => .error e
    | .ok fs => match rsF (s : Int) fs mi with
      | .error e => .error e
      | .ok (way, len) => .ok (⟨s, mi, fs⟩, way, len)
def rsP (l : List UInt8) : Er ((Rs × Bool × List UInt8) × Nat) := msg 3 rsg (fun x way b => (x, (way == 1) || cls (x.mi == 0) x.fs, b)) l
def rsV (x : Rs) (cl : Bool) (a : Option Addr) (c : Nat) (v : Value) : Value := .agg #[.int .i64 (x.st : Int), .int .i64 x.mi, .slice a x.fs.length c, v, .bool cl]
theorem rsV_eq {s : Nat} {mi : Int} {fs : List FD} {a : Option Addr} {c nf : Nat} {v : Value} {cl cl' : Bool} (h1 : fs.length = nf) (h2 : cl' = cl) : rsV ⟨s, mi, fs⟩ cl' a c v = .agg #[.int .i64 (s : Int), .int .i64 mi, .slice a nf c, v, .bool cl] := by
  unfold rsV
  dsimp only
  rw [h1, h2]
def RsR (ad : Nat → Addr) (w w' : World) (e : Ending) : Er ((Rs × Bool × List UInt8) × Nat) → Prop
  | .error k => e = .returned (.tuple #[.agg z5.toArray, .int .i64 0, erV ad k])
  | .ok ((x, cl, b), n) => ∃ a c v, e = .returned (.tuple #[rsV x cl a c v, .int .i64 (n : Int), .nilIface]) ∧ Hid (FdO w' w.heap.size a x.fs c ∧ Ow w' w.heap.size v b)
theorem RsR_ev {ad : Nat → Addr} {w w' : World} {k : Nat} (h : k < 12) : RsR ad w w' (.returned (.tuple #[.agg z5.toArray, .int .i64 0, ev (ad k)])) (.error k) := by
  show Ending.returned _ = Ending.returned _
  unfold erV
  rw [if_pos h]
theorem rsF_er {s : Int} {fs : List FD} {mi : Int} {k : Nat} (h : rsF s fs mi = .error k) : k < 12 := by
  unfold rsF at h
  split at h
  · cases h
  · have := frm_er h
    omega
theorem rsF_len {s : Int} {fs : List FD} {mi way : Int} {n : Nat} (h : rsF s fs mi = .ok (way, n)) : n ≤ 1048576 := by
  unfold rsF at h
  split at h
  · injection h with h; injection h with e1 e2; omega
  · exact frm_len h
set_option maxRecDepth 100000 in
set_option maxHeartbeats 4000000 in
theorem readResponse_walk (ad : Nat → Addr) {a : Option Addr} {n c : Nat} {ds : List UInt8} (hn40 : n ≤ 1099511627776) (w : World) (hS : Sb w (.slice a n c) ds) (hW : GW w ad) : Calls Tryz.prog 29 #[.slice a n c] w fun e w' => RsR ad w w' e (rsP ds) ∧ Up w w' := by
  have HW := Hid.of hW
  clear hW
  obtain ⟨hn, hnc, hcm⟩ := hS.len
  unfold maxLen at hcm
  have HN := Hid.of hn
  have HSb := Hid.of hS
  clear hn hS
  have HA0 := Hid.of (at_new w 33 z5)
  have HU0 := Hid.of ((Up.refl w).alloc (.cells z5.toArray 33))
  obtain ⟨rv, hrv⟩ : ∃ rv, rsP ds = rv := ⟨_, rfl⟩
  have HR := Hid.of hrv
  rw [hrv]
  clear hrv
  unfold rsP msg at HR
  go_enter Tryz.func29, Tryz.ntmps29
  go_wp2_with (with_reducible show wpList _ _ _ ({ dst := _, op := Op.load 66 _, type := _, pos := _, after := _, guard := _ } :: _) _ _; refine Shut.out ?_)
  show wpList _ _ _ _ _ _
  obtain ⟨w1, hw1⟩ : ∃ w1, w.alloc (.cells z5.toArray 33) = w1 := ⟨_, rfl⟩
  rw [hw1] at HA0 HU0
  change wpList _ _ _ _ _ (w.alloc (.cells z5.toArray 33))
  rw [hw1]
  clear hw1
  have hgl : w1.cell? ⟨1, 0, none⟩ = some (ev (ad 3)) := (HW.out.ge.up HU0.out).gl 3 (by decide)
  go_wp2_with fail
  refine (cutHead_walk ad 3 hn40 w1 (HSb.out.up HU0.out) (HW.out.ge.up HU0.out)).mono ?_
  rintro e w2 ⟨rfl, h9⟩
  have HU2 := Hid.of (HU0.out.trans h9)
  have HA2 := Hid.of (HA0.out.up h9)
  clear h9 hgl
  cases hc : cHd 3 ds with
  | error k =>
    rw [hc] at HR
    have HE := Hid.of (show rv = .error k from HR.out.symm)
    have hne := er_neq ad k
    have hge := er_grd ad k
    unfold hR z3
    dsimp only
    go_wp2_with (with_reducible show wpList _ _ _ ({ dst := _, op := Op.store 33 (Operand.tmp 2) _, type := _, pos := _, after := _, guard := _ } :: _) _ _; refine Shut.out ?_)
    show wpList _ _ _ _ _ _
    refine wpList_store_at rfl 33 _ _ rfl (w.heap.size) (HA2.out.up ((Up.refl w2).alloc _)) z5 rfl rfl rfl (by kernel_rfl) (by kernel_rfl) ?_
    intro w8 hA8 hg8
    have HA8 := Hid.of hA8
    have HU8 := Hid.of ((HU2.out.alloc _).by hg8 (fun g hg => by have := Option.some.inj hg; omega))
    clear hA8 hg8
    simp only [Act.put]
    repeat go_step
    refine bodyPost_ret (result_cell_tmp2 Tryz.results29 _ _ (w.heap.size) z5 _ _ rfl rfl rfl HA8.out.range Tryz.underlying33 rfl (by kernel_rfl)) rfl ?_
    rw [HE.out]
    exact ⟨rfl, HU8.out⟩
  | ok q =>
    obtain ⟨st, fl, k⟩ := q
    rw [hc] at HR
    have hck := cHd_ok hc
    have hkn : k ≤ n := by rw [HN.out]; exact hck.2.1
    have hst : st.length ≤ 8000 := hck.2.2.1
    have hfll : fl.length ≤ 16384 := hck.2.2.2.1
    unfold hR
    dsimp only at HR ⊢
    clear hck hc
    go_wp2_with fail
    obtain ⟨w3, hw3⟩ : ∃ w3, w2.alloc (.cells #[vs st, vs fl, .int .i64 (k : Int)] 92) = w3 := ⟨_, rfl⟩
    have HH3 := Hid.of (show At w3 w2.heap.size 92 [vs st, vs fl, .int .i64 (k : Int)] by rw [← hw3]; exact at_new w2 92 [vs st, vs fl, .int .i64 (k : Int)])
    have hu3 : Up w2 w3 := by rw [← hw3]; exact (Up.refl w2).alloc _
    have HU3 := Hid.of (HU2.out.trans hu3)
    have HA3 := Hid.of (HA2.out.up hu3)
    change Calls _ _ _ (w2.alloc (.cells #[vs st, vs fl, .int .i64 (k : Int)] 92)) _
    rw [hw3]
    clear hw3 hu3
    refine (readStatusLine_walk ad ⟨st.toArray⟩ (by rw [str_len]; omega) w3 (HW.out.up HU3.out).ge (HW.out.up HU3.out).gn).mono ?_
    rintro e w4 ⟨rfl, h9⟩
    have HU4 := Hid.of (HU3.out.trans h9)
    have HA4 := Hid.of (HA3.out.up h9)
    have HH4 := Hid.of (HH3.out.up h9)
    clear h9 HH3
    unfold rsg at HR
    cases hl : rsl st with
    | error e1 =>
      rw [hl] at HR
      have HE := Hid.of (show rv = .error e1 from HR.out.symm)
      have HK := Hid.of (rsl_er hl)
      unfold slR z5
      dsimp only
      go_wp2_with (with_reducible show wpList _ _ _ ({ dst := _, op := Op.store 33 (Operand.tmp 2) _, type := _, pos := _, after := _, guard := _ } :: _) _ _; refine Shut.out ?_)
      show wpList _ _ _ _ _ _
      refine wpList_store_at rfl 33 _ _ rfl (w.heap.size) (HA4.out.up ((Up.refl w4).alloc _)) z5 rfl rfl rfl (by kernel_rfl) (by kernel_rfl) ?_
      intro w8 hA8 hg8
      have HA8 := Hid.of hA8
      have HU8 := Hid.of ((HU4.out.alloc _).by hg8 (fun g hg => by have := Option.some.inj hg; omega))
      clear hA8 hg8
      simp only [Act.put]
      repeat go_step
      refine bodyPost_ret (result_cell_tmp2 Tryz.results29 _ _ (w.heap.size) z5 _ _ rfl rfl rfl HA8.out.range Tryz.underlying33 rfl (by kernel_rfl)) rfl ?_
      rw [HE.out]
      exact ⟨RsR_ev HK.out, HU8.out⟩
    | ok q1 =>
      obtain ⟨st0, mi⟩ := q1
      rw [hl] at HR
      unfold slR
      dsimp only at HR ⊢
      clear hl
      have HUw4 := Hid.of HU4.out
      have HUw4s := Hid.of (show w.heap.size < w4.heap.size from lt_of_at HA4.out)
      have h1 : (w4.alloc (.cells #[.int .i64 (st0 : Int), .int .i64 mi, .slice none 0 0, .slice none 0 0, .bool false] 33)).cell? ⟨w2.heap.size, 1, none⟩ = some (vs fl) := (HH4.out.up ((Up.refl w4).alloc _)).cell (i := 1) rfl
      go_wp2_with fail
      obtain ⟨w5, hw5⟩ : ∃ w5, w4.alloc (.cells #[.int .i64 (st0 : Int), .int .i64 mi, .slice none 0 0, .slice none 0 0, .bool false] 33) = w5 := ⟨_, rfl⟩
      have HR5 := Hid.of (show At w5 w4.heap.size 33 [.int .i64 (st0 : Int), .int .i64 mi, .slice none 0 0, .slice none 0 0, .bool false] by rw [← hw5]; exact at_new w4 33 [.int .i64 (st0 : Int), .int .i64 mi, .slice none 0 0, .slice none 0 0, .bool false])
      have hu5 : Up w4 w5 := by rw [← hw5]; exact (Up.refl w4).alloc _
      have HU5 := Hid.of (HU4.out.trans hu5)
      have HA5 := Hid.of (HA4.out.up hu5)
      have HH5 := Hid.of (HH4.out.up hu5)
      change Calls _ _ _ (w4.alloc (.cells #[.int .i64 (st0 : Int), .int .i64 mi, .slice none 0 0, .slice none 0 0, .bool false] 33)) _
      rw [hw5]
      clear hw5 hu5 h1
      refine (readFields_walk ad ⟨fl.toArray⟩ (by rw [str_len]; exact hfll) w5 (HW.out.up HU5.out).ge).mono ?_
      rintro e w6 ⟨hRd, h9⟩
      have HU6 := Hid.of (HU5.out.trans h9)
      have HA6 := Hid.of (HA5.out.up h9)
      have HH6 := Hid.of (HH5.out.up h9)
      have HR6 := Hid.of (HR5.out.up h9)
      clear h9
      have q3 : w6.cell? ⟨w4.heap.size, 2, none⟩ = some (.slice none 0 0) := HR6.out.cell (i := 2) rfl
      have p3 := HR6.out.thaw 2
      have hrne : w4.heap.size ≠ w.heap.size := by have := HUw4s.out; omega
      cases hd : rdf fl with
      | error e2 =>
        rw [hd] at HR
        have HE := Hid.of (show rv = .error e2 from HR.out.symm)
        have HK := Hid.of (rdf_er hd)
        rw [show (⟨fl.toArray⟩ : ByteArray).data.toList = fl from rfl, hd] at hRd
        obtain rfl : e = _ := hRd
        dsimp only
        have HG3 := Hid.of (grown_at w6 w4.heap.size 2 (.slice none 0 0))
        go_wp2_with (with_reducible show wpList _ _ _ ({ dst := _, op := Op.store 33 (Operand.tmp 2) _, type := _, pos := _, after := _, guard := _ } :: _) _ _; refine Shut.out ?_)
        show wpList _ _ _ _ _ _
        refine wpList_store_at rfl 33 _ _ rfl (w.heap.size) (HA6.out.by HG3.out (fun e => hrne (Option.some.inj e))) z5 rfl rfl rfl (by kernel_rfl) (by kernel_rfl) ?_
        intro w8 hA8 hg8
        have HA8 := Hid.of hA8
        have HU8 := Hid.of ((HU6.out.by HG3.out (fun g hg => by have := Option.some.inj hg; have := HUw4.out.size; omega)).by hg8 (fun g hg => by have := Option.some.inj hg; omega))
        clear hA8 hg8
        simp only [Act.put]
        repeat go_step
        refine bodyPost_ret (result_cell_tmp2 Tryz.results29 _ _ (w.heap.size) z5 _ _ rfl rfl rfl HA8.out.range Tryz.underlying33 rfl (by kernel_rfl)) rfl ?_
        rw [HE.out]
        exact ⟨RsR_ev HK.out, HU8.out⟩
      | ok fs =>
        rw [hd] at HR
        rw [show (⟨fl.toArray⟩ : ByteArray).data.toList = fl from rfl, hd] at hRd
        obtain ⟨af, cf, rfl, hFO⟩ := hRd
        have hsm := rdf_small hd
        have hfl2 : fs.length ≤ 1048576 := by omega
        have HSm := Hid.of (show ∀ f ∈ fs, f.v.size ≤ 1048576 from fun f hf => by have := (hsm.2 f hf).2; omega)
        clear hsm hd
        dsimp only at HR ⊢
        have HFO6 := Hid.of (ow_base hFO.out HU5.out.size)
        clear hFO
        obtain ⟨nf, hnf⟩ : ∃ nf, fs.length = nf := ⟨_, rfl⟩
        have HNf := Hid.of hnf
        rw [hnf] at HFO6 ⊢
        clear hnf
        have HG3 := Hid.of (grown_at w6 w4.heap.size 2 (.slice af nf cf))
        have HR7 := Hid.of (HR6.out.set 2 (.slice af nf cf))
        dsimp only [List.set_cons_zero, List.set_cons_succ] at HR7
        have HA7 := Hid.of (HA6.out.by HG3.out (fun e => hrne (Option.some.inj e)))
        have hhne := HH6.out.ne HR6.out (by decide)
        have HH7 := Hid.of (HH6.out.by HG3.out (fun e => hhne (Option.some.inj e).symm))
        have HU7 := Hid.of (HU6.out.by HG3.out (fun g hg => by have := Option.some.inj hg; have := HUw4.out.size; omega))
        have HFO7 := Hid.of (HFO6.out.kept HG3.out (.inr (own_ne HFO6.out HR6.out (by decide))))
        clear HG3 hhne HR6 HA6 HH6 HFO6
        go_wp2_with (with_reducible show wpList _ _ _ ({ dst := _, op := Op.load 33 _, type := _, pos := _, after := _, guard := _ } :: _) _ _; refine Shut.out ?_)
        show wpList _ _ _ _ _ _
        change wpList _ _ _ _ _ (w6.setCell ⟨w4.heap.size, 2, none⟩ (.slice af nf cf))
        obtain ⟨w7, hw7⟩ : ∃ w7, w6.setCell ⟨w4.heap.size, 2, none⟩ (.slice af nf cf) = w7 := ⟨_, rfl⟩
        rw [hw7] at HR7 HA7 HH7 HU7 HFO7 ⊢
        clear hw7 q3 p3
        refine wpList_load_mid rfl _ _ rfl w4.heap.size 0 rfl [.int .i64 (st0 : Int), .int .i64 mi, .slice af nf cf, .slice none 0 0, .bool false] _ HR7.out.range Tryz.underlying33 rfl (by kernel_rfl) ?_
        simp only [Act.put, List.setIfInBounds_toArray, List.set_cons_zero, List.set_cons_succ]
        have HFd := Hid.of (show FdL w7 af fs cf by have h := HFO7.out; rw [← HNf.out] at h; exact FdO.fdl h)
        have HFm := Hid.of (responseFraming_walk ad (st0 : Int) mi af fs cf nf (.slice none 0 0) false HNf.out w7 HFd.out hfl2 HSm.out (HW.out.up HU7.out).ge (HW.out.up HU7.out).kd (HW.out.up HU7.out).gp)
        go_wp2_with fail
        refine HFm.out.mono ?_
        rintro e w9 ⟨rfl, h9⟩
        have HU9 := Hid.of (HU7.out.trans h9)
        have HA9 := Hid.of (HA7.out.up h9)
        have HH9 := Hid.of (HH7.out.up h9)
        have HR9 := Hid.of (HR7.out.up h9)
        have HFO9 := Hid.of (ow_up HFO7.out h9)
        have HFd9 := Hid.of (HFd.out.up h9)
        clear h9 HFm
        cases hf0 : rsF (st0 : Int) fs mi with
        | error e4 =>
          rw [hf0] at HR
          have HE := Hid.of (show rv = .error e4 from HR.out.symm)
          have HK := Hid.of (rsF_er hf0)
          unfold frR z2
          dsimp only
          go_wp2_with (with_reducible show wpList _ _ _ ({ dst := _, op := Op.store 33 (Operand.tmp 2) _, type := _, pos := _, after := _, guard := _ } :: _) _ _; refine Shut.out ?_)
          show wpList _ _ _ _ _ _
          refine wpList_store_at rfl 33 _ _ rfl (w.heap.size) (HA9.out.up ((Up.refl w9).alloc _)) z5 rfl rfl rfl (by kernel_rfl) (by kernel_rfl) ?_
          intro w8 hA8 hg8
          have HA8 := Hid.of hA8
          have HU8 := Hid.of ((HU9.out.alloc _).by hg8 (fun g hg => by have := Option.some.inj hg; omega))
          clear hA8 hg8
          simp only [Act.put]
          repeat go_step
          refine bodyPost_ret (result_cell_tmp2 Tryz.results29 _ _ (w.heap.size) z5 _ _ rfl rfl rfl HA8.out.range Tryz.underlying33 rfl (by kernel_rfl)) rfl ?_
          rw [HE.out]
          exact ⟨RsR_ev HK.out, HU8.out⟩
        | ok q4 =>
          obtain ⟨way, len⟩ := q4
          rw [hf0] at HR
          have hlen := rsF_len hf0
          unfold frR
          dsimp only at HR ⊢
          clear hf0
          go_wp2
          obtain ⟨wA, hwA⟩ : ∃ wA, w9.alloc (.cells #[.int .i64 way, .int .i64 (len : Int)] 101) = wA := ⟨_, rfl⟩
          have HFA := Hid.of (show At wA w9.heap.size 101 [.int .i64 way, .int .i64 (len : Int)] by rw [← hwA]; exact at_new w9 101 [.int .i64 way, .int .i64 (len : Int)])
          have huA : Up w9 wA := by rw [← hwA]; exact (Up.refl w9).alloc _
          have HUA := Hid.of (HU9.out.trans huA)
          have HAA := Hid.of (HA9.out.up huA)
          have HHA := Hid.of (HH9.out.up huA)
          have HRA := Hid.of (HR9.out.up huA)
          have HFO := Hid.of (ow_up HFO9.out huA)
          have HFA2 := Hid.of (HFd9.out.up huA)
          change Code.wp _ _ _ _ (w9.alloc (.cells #[.int .i64 way, .int .i64 (len : Int)] 101))
          rw [hwA]
          clear hwA huA HU9 HA9 HH9 HR9 HFO9 HFd9
          have hSk := HSb.out.sub k n hkn (by rw [← HN.out]; exact Nat.le_refl _)
          rw [show (ds.take n).drop k = ds.drop k by rw [HN.out, List.take_length]] at hSk
          have HCt := Hid.of (fun (w2 : World) (hu : Up wA w2) => cut_walk ad way len (by omega) (by omega) w2 (hSk.up (HUA.out.trans hu)) (HW.out.up (HUA.out.trans hu)).ge)
          clear hSk
          have HRes := Hid.of (show ∀ r : Er ((Rs × Bool × List UInt8) × Nat), (match fcu way len (ds.drop k) with | .error e => .error e | .ok (b, n) => .ok ((⟨st0, mi, fs⟩, (way == 1) || cls (mi == 0) fs, b), k + n)) = r → rv = r from fun r hr => by
            rw [← HR.out, ← hr]
            cases fcu way len (ds.drop k) <;> rfl)
          clear HR
          refine wp_region_held_drew (S := fun w2 => Up wA w2) (by kernel_rfl) (Up.refl wA).drew (fun hS => ?_)
          refine wpAnyH_take (i := 0) (oi := { dst := some 52, op := Go.Op.load 101 (Go.Operand.tmp 8), type := 101, pos := "message.go:46", after := #[], guard := none }) (v := .agg #[.int .i64 way, .int .i64 (len : Int)]) rfl (by kernel_rfl) (by kernel_rfl) (by kernel_rfl) (fun _ _ _ h => h) (Or.inl ⟨by kernel_rfl, ?_⟩) hS ?_
          · intro w5 hSw
            have hf0 : w5.cell? ⟨w9.heap.size, 0, none⟩ = some (.int .i64 way) := hSw.cell (HFA.out.cell (i := 0) rfl)
            have hf1 : w5.cell? ⟨w9.heap.size, 1, none⟩ = some (.int .i64 (len : Int)) := hSw.cell (HFA.out.cell (i := 1) rfl)
            clear hSw hS
            go_simp
          simp only [Act.put, List.setIfInBounds_toArray, List.set_cons_zero, List.set_cons_succ]
          refine wpAnyH_take (i := 1) (oi := { dst := some 53, op := Go.Op.move (Go.Operand.tmp 0), type := 22, pos := "message.go:46", after := #[], guard := none }) (v := .slice a n c) rfl (by kernel_rfl) (by kernel_rfl) (by kernel_rfl) (fun _ _ _ h => h) (Or.inl ⟨by kernel_rfl, ?_⟩) hS ?_
          · intro w5 hSw
            clear hSw hS
            go_simp
          simp only [Act.put, List.setIfInBounds_toArray, List.set_cons_zero, List.set_cons_succ]
          refine wpAnyH_take (i := 2) (oi := { dst := some 54, op := Go.Op.fieldAddr 92 (Go.Operand.tmp 5) 2, type := 0, pos := "message.go:46", after := #[], guard := none }) (v := .pointer (some ⟨w2.heap.size, 2, none⟩)) rfl (by kernel_rfl) (by kernel_rfl) (by kernel_rfl) (fun _ _ _ h => h) (Or.inl ⟨by kernel_rfl, ?_⟩) hS ?_
          · intro w5 hSw
            clear hSw hS
            go_simp
          simp only [Act.put, List.setIfInBounds_toArray, List.set_cons_zero, List.set_cons_succ]
          refine wpAnyH_take (i := 3) (oi := { dst := some 55, op := Go.Op.load 3 (Go.Operand.tmp 54), type := 3, pos := "message.go:46", after := #[{ on := 2, ground := Go.Ground.data }], guard := none }) (v := .int .i64 (k : Int)) rfl (by kernel_rfl) (by kernel_rfl) (by kernel_rfl) (fun _ _ _ h => h) (Or.inl ⟨by kernel_rfl, ?_⟩) hS ?_
          · intro w5 hSw
            have hh2 : w5.cell? ⟨w2.heap.size, 2, none⟩ = some (.int .i64 (k : Int)) := hSw.cell (HHA.out.cell (i := 2) rfl)
            clear hSw hS
            go_simp
          simp only [Act.put, List.setIfInBounds_toArray, List.set_cons_zero, List.set_cons_succ]
          refine wpAnyH_take (i := 4) (oi := { dst := some 56, op := Go.Op.slice 22 (Go.Operand.tmp 53) (some (Go.Operand.tmp 55)) none none, type := 22, pos := "message.go:46", after := #[{ on := 1, ground := Go.Ground.data }, { on := 3, ground := Go.Ground.data }], guard := none }) (v := .slice (sv a c k) (n - k) (c - k)) rfl (by kernel_rfl) (by kernel_rfl) (by kernel_rfl) (fun _ _ _ h => h) (Or.inl ⟨by kernel_rfl, ?_⟩) hS ?_
          · intro w5 hSw
            clear hSw hS
            exact exec_sublo (by omega) rfl rfl rfl
          simp only [Act.put, List.setIfInBounds_toArray, List.set_cons_zero, List.set_cons_succ]
          refine wpAnyH_ready (rs := [5]) (by kernel_rfl) (by simp) ?_
          refine AllReadyH.cons (o := { dst := some 57, op := Go.Op.call { callee := Go.Callee.value (Go.Operand.func 52), args := #[Go.Operand.tmp 52, Go.Operand.tmp 56], argTypes := #[101, 22] }, type := 77, pos := "message.go:46", after := #[{ on := 0, ground := Go.Ground.data }, { on := 4, ground := Go.Ground.data }], guard := none }) rfl (fun K hK => ?_) AllReadyH.nil
          rw [if_pos (by kernel_rfl)]
          go_simp
          refine (HCt.out _ hS).mono ?_
          rintro e wB ⟨hUn, u5⟩
          have HSB := Hid.of (hS.trans u5)
          have HSs := Hid.of hS
          clear u5 hS
          cases hf : fcu way len (ds.drop k) with
          | error e9 =>
            rw [hf] at hUn
            obtain rfl : e = _ := hUn
            dsimp only
            refine hK.out _ _ HSB.out (fun hS => ?_)
            clear hK K
            refine wpAnyH_take (i := 6) (oi := { dst := some 51, op := Go.Op.move (Go.Operand.tmp 57), type := 77, pos := "message.go:46", after := #[{ on := 5, ground := Go.Ground.data }], guard := none }) (v := .tuple #[.slice none 0 0, .int .i64 0, erV ad e9]) rfl (by kernel_rfl) (by kernel_rfl) (by kernel_rfl) (fun _ _ _ h => h) (Or.inl ⟨by kernel_rfl, ?_⟩) hS ?_
            · intro w5 hSw
              clear hSw hS
              go_simp
            simp only [Act.put, List.setIfInBounds_toArray, List.set_cons_zero, List.set_cons_succ]
            refine wpAnyH_take (i := 7) (oi := { dst := some 58, op := Go.Op.extract (Go.Operand.tmp 51) 0, type := 22, pos := "message.go:46", after := #[{ on := 6, ground := Go.Ground.data }], guard := none }) (v := .slice none 0 0) rfl (by kernel_rfl) (by kernel_rfl) (by kernel_rfl) (fun _ _ _ h => h) (Or.inl ⟨by kernel_rfl, ?_⟩) hS ?_
            · intro w5 hSw
              clear hSw hS
              go_simp
            simp only [Act.put, List.setIfInBounds_toArray, List.set_cons_zero, List.set_cons_succ]
            refine wpAnyH_take (i := 8) (oi := { dst := some 59, op := Go.Op.extract (Go.Operand.tmp 51) 1, type := 3, pos := "message.go:46", after := #[{ on := 6, ground := Go.Ground.data }, { on := 10, ground := Go.Ground.gcOnly Go.Departure.lateStores }], guard := none }) (v := .int .i64 0) rfl (by kernel_rfl) (by kernel_rfl) (by kernel_rfl) (fun _ _ _ h => h) (Or.inl ⟨by kernel_rfl, ?_⟩) hS ?_
            · intro w5 hSw
              clear hSw hS
              go_simp
            simp only [Act.put, List.setIfInBounds_toArray, List.set_cons_zero, List.set_cons_succ]
            refine wpAnyH_take (i := 9) (oi := { dst := some 60, op := Go.Op.extract (Go.Operand.tmp 51) 2, type := 66, pos := "message.go:46", after := #[{ on := 6, ground := Go.Ground.data }, { on := 11, ground := Go.Ground.gcOnly Go.Departure.lateStores }], guard := none }) (v := erV ad e9) rfl (by kernel_rfl) (by kernel_rfl) (by kernel_rfl) (fun _ _ _ h => h) (Or.inl ⟨by kernel_rfl, ?_⟩) hS ?_
            · intro w5 hSw
              clear hSw hS
              go_simp
            simp only [Act.put, List.setIfInBounds_toArray, List.set_cons_zero, List.set_cons_succ]
            refine wpAnyH_take (i := 10) (oi := { dst := some 9, op := Go.Op.assign (Go.Operand.tmp 58), type := 22, pos := "message.go:46", after := #[{ on := 7, ground := Go.Ground.data }, { on := 5, ground := Go.Ground.chain }, { on := 0, ground := Go.Ground.phase }, { on := 1, ground := Go.Ground.phase }, { on := 2, ground := Go.Ground.phase }, { on := 3, ground := Go.Ground.phase }, { on := 4, ground := Go.Ground.phase }, { on := 5, ground := Go.Ground.phase }, { on := 6, ground := Go.Ground.phase }, { on := 7, ground := Go.Ground.phase }, { on := 8, ground := Go.Ground.textOnly Go.Departure.lateStores }, { on := 9, ground := Go.Ground.textOnly Go.Departure.lateStores }], guard := none }) (v := .slice none 0 0) rfl (by kernel_rfl) (by kernel_rfl) (by kernel_rfl) (fun _ _ _ h => h) (Or.inl ⟨by kernel_rfl, ?_⟩) hS ?_
            · intro w5 hSw
              clear hSw hS
              go_simp
            simp only [Act.put, List.setIfInBounds_toArray, List.set_cons_zero, List.set_cons_succ]
            refine wpAnyH_take (i := 11) (oi := { dst := some 10, op := Go.Op.assign (Go.Operand.tmp 59), type := 3, pos := "message.go:46", after := #[{ on := 8, ground := Go.Ground.data }, { on := 10, ground := Go.Ground.chain }, { on := 0, ground := Go.Ground.phase }, { on := 1, ground := Go.Ground.phase }, { on := 2, ground := Go.Ground.phase }, { on := 3, ground := Go.Ground.phase }, { on := 4, ground := Go.Ground.phase }, { on := 5, ground := Go.Ground.phase }, { on := 6, ground := Go.Ground.phase }, { on := 7, ground := Go.Ground.phase }, { on := 8, ground := Go.Ground.phase }, { on := 9, ground := Go.Ground.textOnly Go.Departure.lateStores }, { on := 10, ground := Go.Ground.phase }], guard := none }) (v := .int .i64 0) rfl (by kernel_rfl) (by kernel_rfl) (by kernel_rfl) (fun _ _ _ h => h) (Or.inl ⟨by kernel_rfl, ?_⟩) hS ?_
            · intro w5 hSw
              clear hSw hS
              go_simp
            simp only [Act.put, List.setIfInBounds_toArray, List.set_cons_zero, List.set_cons_succ]
            refine wpAnyH_take (i := 12) (oi := { dst := some 6, op := Go.Op.assign (Go.Operand.tmp 60), type := 66, pos := "message.go:46", after := #[{ on := 9, ground := Go.Ground.data }, { on := 11, ground := Go.Ground.chain }, { on := 0, ground := Go.Ground.phase }, { on := 1, ground := Go.Ground.phase }, { on := 2, ground := Go.Ground.phase }, { on := 3, ground := Go.Ground.phase }, { on := 4, ground := Go.Ground.phase }, { on := 5, ground := Go.Ground.phase }, { on := 6, ground := Go.Ground.phase }, { on := 7, ground := Go.Ground.phase }, { on := 8, ground := Go.Ground.phase }, { on := 9, ground := Go.Ground.phase }, { on := 10, ground := Go.Ground.phase }, { on := 11, ground := Go.Ground.phase }], guard := none }) (v := erV ad e9) rfl (by kernel_rfl) (by kernel_rfl) (by kernel_rfl) (fun _ _ _ h => h) (Or.inl ⟨by kernel_rfl, ?_⟩) hS ?_
            · intro w5 hSw
              clear hSw hS
              go_simp
            simp only [Act.put, List.setIfInBounds_toArray, List.set_cons_zero, List.set_cons_succ]
            clear hS
            refine wpAnyH_done (by kernel_rfl) ?_ _
            have hne := er_neq ad e9
            have hge := er_grd ad e9
            have HE := Hid.of (HRes.out (.error e9) (by rw [hf]))
            go_wp2_with (with_reducible show wpList _ _ _ ({ dst := _, op := Op.store 33 (Operand.tmp 2) _, type := _, pos := _, after := _, guard := _ } :: _) _ _; refine Shut.out ?_)
            show wpList _ _ _ _ _ _
            refine wpList_store_at rfl 33 _ _ rfl (w.heap.size) (HAA.out.up HSB.out) z5 rfl rfl rfl (by kernel_rfl) (by kernel_rfl) ?_
            intro w8 hA8 hg8
            have HA8 := Hid.of hA8
            have HU8 := Hid.of ((HUA.out.trans HSB.out).by hg8 (fun g hg => by have := Option.some.inj hg; omega))
            clear hA8 hg8
            simp only [Act.put]
            repeat go_step
            refine bodyPost_ret (result_cell_tmp2 Tryz.results29 _ _ (w.heap.size) z5 _ _ rfl rfl rfl HA8.out.range Tryz.underlying33 rfl (by kernel_rfl)) rfl ?_
            rw [HE.out]
            exact ⟨rfl, HU8.out⟩
          | ok q9 =>
            obtain ⟨bo, nb⟩ := q9
            rw [hf] at hUn
            obtain ⟨vB, rfl, hoB⟩ := hUn
            have HOB := Hid.of (ow_base hoB.out (Nat.le_trans HUA.out.size HSs.out.size))
            clear hoB
            dsimp only
            refine hK.out _ _ HSB.out (fun hS => ?_)
            clear hK K
            refine wpAnyH_take (i := 6) (oi := { dst := some 51, op := Go.Op.move (Go.Operand.tmp 57), type := 77, pos := "message.go:46", after := #[{ on := 5, ground := Go.Ground.data }], guard := none }) (v := .tuple #[vB, .int .i64 (nb : Int), .nilIface]) rfl (by kernel_rfl) (by kernel_rfl) (by kernel_rfl) (fun _ _ _ h => h) (Or.inl ⟨by kernel_rfl, ?_⟩) hS ?_
            · intro w5 hSw
              clear hSw hS
              go_simp
            simp only [Act.put, List.setIfInBounds_toArray, List.set_cons_zero, List.set_cons_succ]
            refine wpAnyH_take (i := 7) (oi := { dst := some 58, op := Go.Op.extract (Go.Operand.tmp 51) 0, type := 22, pos := "message.go:46", after := #[{ on := 6, ground := Go.Ground.data }], guard := none }) (v := vB) rfl (by kernel_rfl) (by kernel_rfl) (by kernel_rfl) (fun _ _ _ h => h) (Or.inl ⟨by kernel_rfl, ?_⟩) hS ?_
            · intro w5 hSw
              clear hSw hS
              go_simp
            simp only [Act.put, List.setIfInBounds_toArray, List.set_cons_zero, List.set_cons_succ]
            refine wpAnyH_take (i := 8) (oi := { dst := some 59, op := Go.Op.extract (Go.Operand.tmp 51) 1, type := 3, pos := "message.go:46", after := #[{ on := 6, ground := Go.Ground.data }, { on := 10, ground := Go.Ground.gcOnly Go.Departure.lateStores }], guard := none }) (v := .int .i64 (nb : Int)) rfl (by kernel_rfl) (by kernel_rfl) (by kernel_rfl) (fun _ _ _ h => h) (Or.inl ⟨by kernel_rfl, ?_⟩) hS ?_
            · intro w5 hSw
              clear hSw hS
              go_simp
            simp only [Act.put, List.setIfInBounds_toArray, List.set_cons_zero, List.set_cons_succ]
            refine wpAnyH_take (i := 9) (oi := { dst := some 60, op := Go.Op.extract (Go.Operand.tmp 51) 2, type := 66, pos := "message.go:46", after := #[{ on := 6, ground := Go.Ground.data }, { on := 11, ground := Go.Ground.gcOnly Go.Departure.lateStores }], guard := none }) (v := .nilIface) rfl (by kernel_rfl) (by kernel_rfl) (by kernel_rfl) (fun _ _ _ h => h) (Or.inl ⟨by kernel_rfl, ?_⟩) hS ?_
            · intro w5 hSw
              clear hSw hS
              go_simp
            simp only [Act.put, List.setIfInBounds_toArray, List.set_cons_zero, List.set_cons_succ]
            refine wpAnyH_take (i := 10) (oi := { dst := some 9, op := Go.Op.assign (Go.Operand.tmp 58), type := 22, pos := "message.go:46", after := #[{ on := 7, ground := Go.Ground.data }, { on := 5, ground := Go.Ground.chain }, { on := 0, ground := Go.Ground.phase }, { on := 1, ground := Go.Ground.phase }, { on := 2, ground := Go.Ground.phase }, { on := 3, ground := Go.Ground.phase }, { on := 4, ground := Go.Ground.phase }, { on := 5, ground := Go.Ground.phase }, { on := 6, ground := Go.Ground.phase }, { on := 7, ground := Go.Ground.phase }, { on := 8, ground := Go.Ground.textOnly Go.Departure.lateStores }, { on := 9, ground := Go.Ground.textOnly Go.Departure.lateStores }], guard := none }) (v := vB) rfl (by kernel_rfl) (by kernel_rfl) (by kernel_rfl) (fun _ _ _ h => h) (Or.inl ⟨by kernel_rfl, ?_⟩) hS ?_
            · intro w5 hSw
              clear hSw hS
              go_simp
            simp only [Act.put, List.setIfInBounds_toArray, List.set_cons_zero, List.set_cons_succ]
            refine wpAnyH_take (i := 11) (oi := { dst := some 10, op := Go.Op.assign (Go.Operand.tmp 59), type := 3, pos := "message.go:46", after := #[{ on := 8, ground := Go.Ground.data }, { on := 10, ground := Go.Ground.chain }, { on := 0, ground := Go.Ground.phase }, { on := 1, ground := Go.Ground.phase }, { on := 2, ground := Go.Ground.phase }, { on := 3, ground := Go.Ground.phase }, { on := 4, ground := Go.Ground.phase }, { on := 5, ground := Go.Ground.phase }, { on := 6, ground := Go.Ground.phase }, { on := 7, ground := Go.Ground.phase }, { on := 8, ground := Go.Ground.phase }, { on := 9, ground := Go.Ground.textOnly Go.Departure.lateStores }, { on := 10, ground := Go.Ground.phase }], guard := none }) (v := .int .i64 (nb : Int)) rfl (by kernel_rfl) (by kernel_rfl) (by kernel_rfl) (fun _ _ _ h => h) (Or.inl ⟨by kernel_rfl, ?_⟩) hS ?_
            · intro w5 hSw
              clear hSw hS
              go_simp
            simp only [Act.put, List.setIfInBounds_toArray, List.set_cons_zero, List.set_cons_succ]
            refine wpAnyH_take (i := 12) (oi := { dst := some 6, op := Go.Op.assign (Go.Operand.tmp 60), type := 66, pos := "message.go:46", after := #[{ on := 9, ground := Go.Ground.data }, { on := 11, ground := Go.Ground.chain }, { on := 0, ground := Go.Ground.phase }, { on := 1, ground := Go.Ground.phase }, { on := 2, ground := Go.Ground.phase }, { on := 3, ground := Go.Ground.phase }, { on := 4, ground := Go.Ground.phase }, { on := 5, ground := Go.Ground.phase }, { on := 6, ground := Go.Ground.phase }, { on := 7, ground := Go.Ground.phase }, { on := 8, ground := Go.Ground.phase }, { on := 9, ground := Go.Ground.phase }, { on := 10, ground := Go.Ground.phase }, { on := 11, ground := Go.Ground.phase }], guard := none }) (v := .nilIface) rfl (by kernel_rfl) (by kernel_rfl) (by kernel_rfl) (fun _ _ _ h => h) (Or.inl ⟨by kernel_rfl, ?_⟩) hS ?_
            · intro w5 hSw
              clear hSw hS
              go_simp
            simp only [Act.put, List.setIfInBounds_toArray, List.set_cons_zero, List.set_cons_succ]
            clear hS
            refine wpAnyH_done (by kernel_rfl) ?_ _
            have hfl := fcu_len hf
            rw [List.length_drop, ← HN.out] at hfl
            have hnb : nb ≤ n - k := hfl.1
            clear hfl
            have HE := Hid.of (HRes.out (.ok ((⟨st0, mi, fs⟩, (way == 1) || cls (mi == 0) fs, bo), k + nb)) (by rw [hf]))
            clear hf
            have HRB := Hid.of (HRA.out.up HSB.out)
            have HUB := Hid.of (HUA.out.trans HSB.out)
            have HFB := Hid.of (show FdL wB af fs cf by have h := HFA2.out.up HSB.out; exact h)
            obtain ⟨aB, nB, cB, rfl⟩ := Sb.shape (Ow.sb HOB.out)
            have k3 : wB.cell? ⟨w4.heap.size, 3, none⟩ = some (.slice none 0 0) := HRB.out.cell (i := 3) rfl
            have f3 := HRB.out.thaw 3
            have HG4 := Hid.of (grown_at wB w4.heap.size 3 (.slice aB nB cB))
            have HRD := Hid.of (HRB.out.set 3 (.slice aB nB cB))
            dsimp only [List.set_cons_zero, List.set_cons_succ] at HRD
            have HUD := Hid.of (HUB.out.by HG4.out (fun g hg => by have := Option.some.inj hg; have := HUw4.out.size; omega))
            have hrne : w4.heap.size ≠ w.heap.size := by have := HUw4s.out; omega
            have HAD := Hid.of ((HAA.out.up HSB.out).by HG4.out (fun e => hrne (Option.some.inj e)))
            have hhne := (HHA.out.up HSB.out).ne HRB.out (by decide)
            have HHD := Hid.of ((HHA.out.up HSB.out).by HG4.out (fun e => hhne (Option.some.inj e).symm))
            have hmne := (HFA.out.up HSB.out).ne HRB.out (by decide)
            have HMD := Hid.of ((HFA.out.up HSB.out).by HG4.out (fun e => hmne (Option.some.inj e).symm))
            have HFD := Hid.of ((ow_up HFO.out HSB.out).kept HG4.out (.inr (own_ne (ow_up HFO.out HSB.out) HRB.out (by decide))))
            have HOD := Hid.of (HOB.out.kept HG4.out (.inr (own_ne HOB.out HRB.out (by decide))))
            have HFL := Hid.of (show FdL (wB.setCell ⟨w4.heap.size, 3, none⟩ (.slice aB nB cB)) af fs cf by have h := HFD.out; rw [← HNf.out] at h; exact FdO.fdl h)
            clear hrne hhne hmne HG4
            have hf0 : (wB.setCell ⟨w4.heap.size, 3, none⟩ (.slice aB nB cB)).cell? ⟨w9.heap.size, 0, none⟩ = some (.int .i64 way) := HMD.out.cell (i := 0) rfl
            cases hw : (way == 1) with
            | true =>
              have HCv := Hid.of (show ((way == 1) || cls (mi == 0) fs) = true by rw [hw]; rfl)
              go_wp2_with (with_reducible show wpList _ _ _ ({ dst := _, op := Op.store 4 _ _, type := _, pos := _, after := _, guard := _ } :: _) _ _; refine Shut.out ?_)
              show wpList _ _ _ _ _ _
              change wpList _ _ _ _ _ (wB.setCell ⟨w4.heap.size, 3, none⟩ (.slice aB nB cB))
              generalize wB.setCell ⟨w4.heap.size, 3, none⟩ (.slice aB nB cB) = wD at *
              clear hw
              have HRC := Hid.of HRD.out
              have HUC := Hid.of HUD.out
              have HAC := Hid.of HAD.out
              have HHC := Hid.of HHD.out
              have HFC := Hid.of HFD.out
              have HOC := Hid.of HOD.out
              have f0 : wD.cell? ⟨w9.heap.size, 0, none⟩ = some (.int .i64 way) := HMD.out.cell (i := 0) rfl
              have k4 : wD.cell? ⟨w4.heap.size, 4, none⟩ = some (.bool false) := HRC.out.cell (i := 4) rfl
              have f4 := HRC.out.thaw 4
              go_wp2
              have HG5 := Hid.of (grown_at wD w4.heap.size 4 (.bool true))
              have HRE := Hid.of (HRC.out.set 4 (.bool true))
              have HUE := Hid.of (HUC.out.by HG5.out (fun g hg => by have := Option.some.inj hg; have := HUw4.out.size; omega))
              have hrne : w4.heap.size ≠ w.heap.size := by have := HUw4s.out; omega
              have HAE := Hid.of (HAC.out.by HG5.out (fun e => hrne (Option.some.inj e)))
              have hhne := HHC.out.ne HRC.out (by decide)
              have HHE := Hid.of (HHC.out.by HG5.out (fun e => hhne (Option.some.inj e).symm))
              have HFE := Hid.of (HFC.out.kept HG5.out (.inr (own_ne HFC.out HRC.out (by decide))))
              have HOE := Hid.of (HOC.out.kept HG5.out (.inr (own_ne HOC.out HRC.out (by decide))))
              clear HG5 k4 f4 hrne hhne
              generalize wD.setCell ⟨w4.heap.size, 4, none⟩ (.bool true) = wE at *
              dsimp only [List.set_cons_zero, List.set_cons_succ] at HRE
              have hone : ([.int .i64 (st0 : Int), .int .i64 mi, .slice af nf cf, Value.slice aB nB cB, .bool true] : List Value).toArray.all (·.oneCell') = true := by kernel_rfl
              refine wp_region_held_drew (S := fun wS => (∃ cs, cs.length = 5 ∧ At wS w.heap.size 33 cs) ∧ At wS w4.heap.size 33 [.int .i64 (st0 : Int), .int .i64 mi, .slice af nf cf, (.slice aB nB cB), .bool true] ∧ At wS w2.heap.size 92 [vs st, vs fl, .int .i64 (k : Int)] ∧ wS.ownsRow w.heap.size 73 2 (.slice af nf cf) nf (fdc fs) ∧ Ow wS w.heap.size (.slice aB nB cB) bo ∧ Up w wS) (by kernel_rfl) ⟨⟨z5, rfl, HAE.out.up (Up.refl _).drew⟩, HRE.out.up (Up.refl _).drew, HHE.out.up (Up.refl _).drew, ow_up HFE.out (Up.refl _).drew, ow_up HOE.out (Up.refl _).drew, HUE.out.drew⟩ (fun hS => ?_)
              refine wpAnyH_take (i := 0) (oi := { dst := some 78, op := Go.Op.load 33 (Go.Operand.tmp 7), type := 33, pos := "message.go:52", after := #[], guard := none }) (v := .agg [.int .i64 (st0 : Int), .int .i64 mi, .slice af nf cf, (.slice aB nB cB), .bool true].toArray) rfl (by kernel_rfl) (by kernel_rfl) (by kernel_rfl) (fun _ _ _ h => h) (Or.inl ⟨by kernel_rfl, ?_⟩) hS ?_
              · intro w5 hSw
                have hld := hSw.2.1.range
                clear hS
                clear hSw
                exact exec_load5 rfl rfl hld
              simp only [Act.put, List.setIfInBounds_toArray, List.set_cons_zero, List.set_cons_succ]
              refine wpAnyH_take (i := 1) (oi := { dst := some 79, op := Go.Op.fieldAddr 92 (Go.Operand.tmp 5) 2, type := 0, pos := "message.go:52", after := #[{ on := 5, ground := Go.Ground.gcOnly Go.Departure.lateStores }], guard := none }) (v := .pointer (some ⟨w2.heap.size, 2, none⟩)) rfl (by kernel_rfl) (by kernel_rfl) (by kernel_rfl) (fun _ _ _ h => h) (Or.inl ⟨by kernel_rfl, ?_⟩) hS ?_
              · intro w5 hSw
                clear hSw hS
                go_simp
              simp only [Act.put, List.setIfInBounds_toArray, List.set_cons_zero, List.set_cons_succ]
              refine wpAnyH_take (i := 2) (oi := { dst := some 80, op := Go.Op.load 3 (Go.Operand.tmp 79), type := 3, pos := "message.go:52", after := #[{ on := 1, ground := Go.Ground.data }, { on := 5, ground := Go.Ground.gcOnly Go.Departure.lateStores }], guard := none }) (v := .int .i64 (k : Int)) rfl (by kernel_rfl) (by kernel_rfl) (by kernel_rfl) (fun _ _ _ h => h) (Or.inl ⟨by kernel_rfl, ?_⟩) hS ?_
              · intro w5 hSw
                have hh2 : w5.cell? ⟨w2.heap.size, 2, none⟩ = some (.int .i64 (k : Int)) := hSw.2.2.1.cell (i := 2) rfl
                clear hSw hS
                go_simp
              simp only [Act.put, List.setIfInBounds_toArray, List.set_cons_zero, List.set_cons_succ]
              refine wpAnyH_take (i := 3) (oi := { dst := some 81, op := Go.Op.move (Go.Operand.tmp 10), type := 3, pos := "message.go:52", after := #[{ on := 5, ground := Go.Ground.gcOnly Go.Departure.lateStores }], guard := none }) (v := .int .i64 (nb : Int)) rfl (by kernel_rfl) (by kernel_rfl) (by kernel_rfl) (fun _ _ _ h => h) (Or.inl ⟨by kernel_rfl, ?_⟩) hS ?_
              · intro w5 hSw
                clear hSw hS
                go_simp
              simp only [Act.put, List.setIfInBounds_toArray, List.set_cons_zero, List.set_cons_succ]
              refine wpAnyH_take (i := 4) (oi := { dst := some 82, op := Go.Op.binOp Go.BinOp.add 3 (Go.Operand.tmp 80) (Go.Operand.tmp 81) 3, type := 3, pos := "message.go:52", after := #[{ on := 2, ground := Go.Ground.data }, { on := 3, ground := Go.Ground.data }, { on := 5, ground := Go.Ground.gcOnly Go.Departure.lateStores }], guard := none }) (v := .int .i64 ((k + nb : Nat) : Int)) rfl (by kernel_rfl) (by kernel_rfl) (by kernel_rfl) (fun _ _ _ h => h) (Or.inl ⟨by kernel_rfl, ?_⟩) hS ?_
              · intro w5 hSw
                clear hSw hS
                go_simp
                exact wrapk _ (by omega) (by omega)
              simp only [Act.put, List.setIfInBounds_toArray, List.set_cons_zero, List.set_cons_succ]
              refine wpAnyH_ready (rs := [5]) (by kernel_rfl) (by simp) ?_
              refine AllReadyH.cons (o := { dst := none, op := Go.Op.store 33 (Go.Operand.tmp 2) (Go.Operand.tmp 78), type := 0, pos := "message.go:52", after := #[{ on := 0, ground := Go.Ground.data }, { on := 0, ground := Go.Ground.phase }, { on := 1, ground := Go.Ground.textOnly Go.Departure.lateStores }, { on := 2, ground := Go.Ground.textOnly Go.Departure.lateStores }, { on := 3, ground := Go.Ground.textOnly Go.Departure.lateStores }, { on := 4, ground := Go.Ground.textOnly Go.Departure.lateStores }], guard := none }) rfl (fun K hK => oper_of_list ?_) AllReadyH.nil
              obtain ⟨⟨cs, hcl, hcs2⟩, hS1, hS2, hS3, hS4, hS5⟩ := hS
              refine wpList_store_at rfl 33 _ _ rfl (w.heap.size) hcs2 [.int .i64 (st0 : Int), .int .i64 mi, .slice af nf cf, (.slice aB nB cB), .bool true] rfl rfl hcl.symm (by kernel_rfl) hone ?_
              intro w8 hA8 hg8
              have HA8 := Hid.of hA8
              have HU8 := Hid.of (hS5.by hg8 (fun g hg => by have := Option.some.inj hg; omega))
              have HF8 := Hid.of (hS3.kept hg8 (.inr (own_ne hS3 hcs2 (by decide))))
              have HO8 := Hid.of (hS4.kept hg8 (.inr (own_ne hS4 hcs2 (by decide))))
              have HR8 := Hid.of (hS1.by hg8 (by have := hS1.ne hcs2; intro e; have := Option.some.inj e; omega))
              have HH8 := Hid.of (hS2.by hg8 (by have := hS2.ne hcs2 (by decide); intro e; have := Option.some.inj e; omega))
              clear hA8 hg8 hcs2 hS2 hS1 hS3 hS4 hS5
              refine hK.out _ _ ⟨⟨_, rfl, HA8.out⟩, HR8.out, HH8.out, HF8.out, HO8.out, HU8.out⟩ (fun hS => ?_)
              clear hK K
              refine wpAnyH_take (i := 6) (oi := { dst := some 3, op := Go.Op.assign (Go.Operand.tmp 82), type := 3, pos := "message.go:52", after := #[{ on := 4, ground := Go.Ground.data }, { on := 5, ground := Go.Ground.chain }, { on := 0, ground := Go.Ground.phase }, { on := 1, ground := Go.Ground.phase }, { on := 2, ground := Go.Ground.phase }, { on := 3, ground := Go.Ground.phase }, { on := 4, ground := Go.Ground.phase }, { on := 5, ground := Go.Ground.phase }], guard := none }) (v := .int .i64 ((k + nb : Nat) : Int)) rfl (by kernel_rfl) (by kernel_rfl) (by kernel_rfl) (fun _ _ _ h => h) (Or.inl ⟨by kernel_rfl, ?_⟩) hS ?_
              · intro w5 hSw
                clear hSw hS
                go_simp
              simp only [Act.put, List.setIfInBounds_toArray, List.set_cons_zero, List.set_cons_succ]
              refine wpAnyH_take (i := 7) (oi := { dst := some 4, op := Go.Op.assign (Go.Operand.const Go.Value.nilIface), type := 66, pos := "message.go:52", after := #[{ on := 6, ground := Go.Ground.chain }, { on := 0, ground := Go.Ground.phase }, { on := 1, ground := Go.Ground.phase }, { on := 2, ground := Go.Ground.phase }, { on := 3, ground := Go.Ground.phase }, { on := 4, ground := Go.Ground.phase }, { on := 5, ground := Go.Ground.phase }, { on := 6, ground := Go.Ground.phase }], guard := none }) (v := .nilIface) rfl (by kernel_rfl) (by kernel_rfl) (by kernel_rfl) (fun _ _ _ h => h) (Or.inl ⟨by kernel_rfl, ?_⟩) hS ?_
              · intro w5 hSw
                clear hSw hS
                go_simp
              simp only [Act.put, List.setIfInBounds_toArray, List.set_cons_zero, List.set_cons_succ]
              clear hS
              refine wpAnyH_done (by kernel_rfl) ?_ _
              repeat go_step
              refine bodyPost_ret (result_cell_tmp2 Tryz.results29 _ _ (w.heap.size) [.int .i64 (st0 : Int), .int .i64 mi, .slice af nf cf, (.slice aB nB cB), .bool true] _ _ rfl rfl rfl HA8.out.range Tryz.underlying33 rfl (by kernel_rfl)) rfl ?_
              rw [HE.out]
              exact ⟨⟨af, cf, .slice aB nB cB, congrArg (fun x => Ending.returned (.tuple #[x, .int .i64 ((k + nb : Nat) : Int), .nilIface])) (rsV_eq HNf.out HCv.out).symm, Hid.of ⟨by unfold FdO; rw [HNf.out]; exact HF8.out, HO8.out⟩⟩, HU8.out⟩
            | false =>
              have r1 : (wB.setCell ⟨w4.heap.size, 3, none⟩ (.slice aB nB cB)).cell? ⟨w4.heap.size, 1, none⟩ = some (.int .i64 mi) := HRD.out.cell (i := 1) rfl
              have r2 : (wB.setCell ⟨w4.heap.size, 3, none⟩ (.slice aB nB cB)).cell? ⟨w4.heap.size, 2, none⟩ = some (.slice af nf cf) := HRD.out.cell (i := 2) rfl
              go_wp2_with fail
              change Calls _ _ _ (wB.setCell ⟨w4.heap.size, 3, none⟩ (.slice aB nB cB)) _
              generalize wB.setCell ⟨w4.heap.size, 3, none⟩ (.slice aB nB cB) = wD at *
              have HCs := Hid.of (closes_walk af fs cf mi wD HFL.out hfl2 HSm.out (HW.out.up HUD.out).kd (HW.out.up HUD.out).gm)
              rw [HNf.out] at HCs
              obtain ⟨clv, hclv⟩ : ∃ clv, cls (mi == 0) fs = clv := ⟨_, rfl⟩
              have HCv := Hid.of (show ((way == 1) || cls (mi == 0) fs) = clv by rw [hw, hclv]; rfl)
              rw [hclv] at HCs
              clear hclv hw r1 r2
              refine HCs.out.mono ?_
              rintro e wC ⟨rfl, uC⟩
              have HUC := Hid.of (HUD.out.trans uC)
              have HRC := Hid.of (HRD.out.up uC)
              have HAC := Hid.of (HAD.out.up uC)
              have HHC := Hid.of (HHD.out.up uC)
              have HFC := Hid.of (ow_up HFD.out uC)
              have HOC := Hid.of (ow_up HOD.out uC)
              clear uC
              dsimp only
              have k4 : wC.cell? ⟨w4.heap.size, 4, none⟩ = some (.bool false) := HRC.out.cell (i := 4) rfl
              have f4 := HRC.out.thaw 4
              go_wp2
              have HG5 := Hid.of (grown_at wC w4.heap.size 4 (.bool clv))
              have HRE := Hid.of (HRC.out.set 4 (.bool clv))
              have HUE := Hid.of (HUC.out.by HG5.out (fun g hg => by have := Option.some.inj hg; have := HUw4.out.size; omega))
              have hrne : w4.heap.size ≠ w.heap.size := by have := HUw4s.out; omega
              have HAE := Hid.of (HAC.out.by HG5.out (fun e => hrne (Option.some.inj e)))
              have hhne := HHC.out.ne HRC.out (by decide)
              have HHE := Hid.of (HHC.out.by HG5.out (fun e => hhne (Option.some.inj e).symm))
              have HFE := Hid.of (HFC.out.kept HG5.out (.inr (own_ne HFC.out HRC.out (by decide))))
              have HOE := Hid.of (HOC.out.kept HG5.out (.inr (own_ne HOC.out HRC.out (by decide))))
              clear HG5 k4 f4 hrne hhne
              generalize wC.setCell ⟨w4.heap.size, 4, none⟩ (.bool clv) = wE at *
              dsimp only [List.set_cons_zero, List.set_cons_succ] at HRE
              have hone : ([.int .i64 (st0 : Int), .int .i64 mi, .slice af nf cf, Value.slice aB nB cB, .bool clv] : List Value).toArray.all (·.oneCell') = true := by kernel_rfl
              refine wp_region_held_drew (S := fun wS => (∃ cs, cs.length = 5 ∧ At wS w.heap.size 33 cs) ∧ At wS w4.heap.size 33 [.int .i64 (st0 : Int), .int .i64 mi, .slice af nf cf, (.slice aB nB cB), .bool clv] ∧ At wS w2.heap.size 92 [vs st, vs fl, .int .i64 (k : Int)] ∧ wS.ownsRow w.heap.size 73 2 (.slice af nf cf) nf (fdc fs) ∧ Ow wS w.heap.size (.slice aB nB cB) bo ∧ Up w wS) (by kernel_rfl) ⟨⟨z5, rfl, HAE.out.up (Up.refl _).drew⟩, HRE.out.up (Up.refl _).drew, HHE.out.up (Up.refl _).drew, ow_up HFE.out (Up.refl _).drew, ow_up HOE.out (Up.refl _).drew, HUE.out.drew⟩ (fun hS => ?_)
              refine wpAnyH_take (i := 0) (oi := { dst := some 78, op := Go.Op.load 33 (Go.Operand.tmp 7), type := 33, pos := "message.go:52", after := #[], guard := none }) (v := .agg [.int .i64 (st0 : Int), .int .i64 mi, .slice af nf cf, (.slice aB nB cB), .bool clv].toArray) rfl (by kernel_rfl) (by kernel_rfl) (by kernel_rfl) (fun _ _ _ h => h) (Or.inl ⟨by kernel_rfl, ?_⟩) hS ?_
              · intro w5 hSw
                have hld := hSw.2.1.range
                clear hS
                clear hSw
                exact exec_load5 rfl rfl hld
              simp only [Act.put, List.setIfInBounds_toArray, List.set_cons_zero, List.set_cons_succ]
              refine wpAnyH_take (i := 1) (oi := { dst := some 79, op := Go.Op.fieldAddr 92 (Go.Operand.tmp 5) 2, type := 0, pos := "message.go:52", after := #[{ on := 5, ground := Go.Ground.gcOnly Go.Departure.lateStores }], guard := none }) (v := .pointer (some ⟨w2.heap.size, 2, none⟩)) rfl (by kernel_rfl) (by kernel_rfl) (by kernel_rfl) (fun _ _ _ h => h) (Or.inl ⟨by kernel_rfl, ?_⟩) hS ?_
              · intro w5 hSw
                clear hSw hS
                go_simp
              simp only [Act.put, List.setIfInBounds_toArray, List.set_cons_zero, List.set_cons_succ]
              refine wpAnyH_take (i := 2) (oi := { dst := some 80, op := Go.Op.load 3 (Go.Operand.tmp 79), type := 3, pos := "message.go:52", after := #[{ on := 1, ground := Go.Ground.data }, { on := 5, ground := Go.Ground.gcOnly Go.Departure.lateStores }], guard := none }) (v := .int .i64 (k : Int)) rfl (by kernel_rfl) (by kernel_rfl) (by kernel_rfl) (fun _ _ _ h => h) (Or.inl ⟨by kernel_rfl, ?_⟩) hS ?_
              · intro w5 hSw
                have hh2 : w5.cell? ⟨w2.heap.size, 2, none⟩ = some (.int .i64 (k : Int)) := hSw.2.2.1.cell (i := 2) rfl
                clear hSw hS
                go_simp
              simp only [Act.put, List.setIfInBounds_toArray, List.set_cons_zero, List.set_cons_succ]
              refine wpAnyH_take (i := 3) (oi := { dst := some 81, op := Go.Op.move (Go.Operand.tmp 10), type := 3, pos := "message.go:52", after := #[{ on := 5, ground := Go.Ground.gcOnly Go.Departure.lateStores }], guard := none }) (v := .int .i64 (nb : Int)) rfl (by kernel_rfl) (by kernel_rfl) (by kernel_rfl) (fun _ _ _ h => h) (Or.inl ⟨by kernel_rfl, ?_⟩) hS ?_
              · intro w5 hSw
                clear hSw hS
                go_simp
              simp only [Act.put, List.setIfInBounds_toArray, List.set_cons_zero, List.set_cons_succ]
              refine wpAnyH_take (i := 4) (oi := { dst := some 82, op := Go.Op.binOp Go.BinOp.add 3 (Go.Operand.tmp 80) (Go.Operand.tmp 81) 3, type := 3, pos := "message.go:52", after := #[{ on := 2, ground := Go.Ground.data }, { on := 3, ground := Go.Ground.data }, { on := 5, ground := Go.Ground.gcOnly Go.Departure.lateStores }], guard := none }) (v := .int .i64 ((k + nb : Nat) : Int)) rfl (by kernel_rfl) (by kernel_rfl) (by kernel_rfl) (fun _ _ _ h => h) (Or.inl ⟨by kernel_rfl, ?_⟩) hS ?_
              · intro w5 hSw
                clear hSw hS
                go_simp
                exact wrapk _ (by omega) (by omega)
              simp only [Act.put, List.setIfInBounds_toArray, List.set_cons_zero, List.set_cons_succ]
              refine wpAnyH_ready (rs := [5]) (by kernel_rfl) (by simp) ?_
              refine AllReadyH.cons (o := { dst := none, op := Go.Op.store 33 (Go.Operand.tmp 2) (Go.Operand.tmp 78), type := 0, pos := "message.go:52", after := #[{ on := 0, ground := Go.Ground.data }, { on := 0, ground := Go.Ground.phase }, { on := 1, ground := Go.Ground.textOnly Go.Departure.lateStores }, { on := 2, ground := Go.Ground.textOnly Go.Departure.lateStores }, { on := 3, ground := Go.Ground.textOnly Go.Departure.lateStores }, { on := 4, ground := Go.Ground.textOnly Go.Departure.lateStores }], guard := none }) rfl (fun K hK => oper_of_list ?_) AllReadyH.nil
              obtain ⟨⟨cs, hcl, hcs2⟩, hS1, hS2, hS3, hS4, hS5⟩ := hS
              refine wpList_store_at rfl 33 _ _ rfl (w.heap.size) hcs2 [.int .i64 (st0 : Int), .int .i64 mi, .slice af nf cf, (.slice aB nB cB), .bool clv] rfl rfl hcl.symm (by kernel_rfl) hone ?_
              intro w8 hA8 hg8
              have HA8 := Hid.of hA8
              have HU8 := Hid.of (hS5.by hg8 (fun g hg => by have := Option.some.inj hg; omega))
              have HF8 := Hid.of (hS3.kept hg8 (.inr (own_ne hS3 hcs2 (by decide))))
              have HO8 := Hid.of (hS4.kept hg8 (.inr (own_ne hS4 hcs2 (by decide))))
              have HR8 := Hid.of (hS1.by hg8 (by have := hS1.ne hcs2; intro e; have := Option.some.inj e; omega))
              have HH8 := Hid.of (hS2.by hg8 (by have := hS2.ne hcs2 (by decide); intro e; have := Option.some.inj e; omega))
              clear hA8 hg8 hcs2 hS2 hS1 hS3 hS4 hS5
              refine hK.out _ _ ⟨⟨_, rfl, HA8.out⟩, HR8.out, HH8.out, HF8.out, HO8.out, HU8.out⟩ (fun hS => ?_)
              clear hK K
              refine wpAnyH_take (i := 6) (oi := { dst := some 3, op := Go.Op.assign (Go.Operand.tmp 82), type := 3, pos := "message.go:52", after := #[{ on := 4, ground := Go.Ground.data }, { on := 5, ground := Go.Ground.chain }, { on := 0, ground := Go.Ground.phase }, { on := 1, ground := Go.Ground.phase }, { on := 2, ground := Go.Ground.phase }, { on := 3, ground := Go.Ground.phase }, { on := 4, ground := Go.Ground.phase }, { on := 5, ground := Go.Ground.phase }], guard := none }) (v := .int .i64 ((k + nb : Nat) : Int)) rfl (by kernel_rfl) (by kernel_rfl) (by kernel_rfl) (fun _ _ _ h => h) (Or.inl ⟨by kernel_rfl, ?_⟩) hS ?_
              · intro w5 hSw
                clear hSw hS
                go_simp
              simp only [Act.put, List.setIfInBounds_toArray, List.set_cons_zero, List.set_cons_succ]
              refine wpAnyH_take (i := 7) (oi := { dst := some 4, op := Go.Op.assign (Go.Operand.const Go.Value.nilIface), type := 66, pos := "message.go:52", after := #[{ on := 6, ground := Go.Ground.chain }, { on := 0, ground := Go.Ground.phase }, { on := 1, ground := Go.Ground.phase }, { on := 2, ground := Go.Ground.phase }, { on := 3, ground := Go.Ground.phase }, { on := 4, ground := Go.Ground.phase }, { on := 5, ground := Go.Ground.phase }, { on := 6, ground := Go.Ground.phase }], guard := none }) (v := .nilIface) rfl (by kernel_rfl) (by kernel_rfl) (by kernel_rfl) (fun _ _ _ h => h) (Or.inl ⟨by kernel_rfl, ?_⟩) hS ?_
              · intro w5 hSw
                clear hSw hS
                go_simp
              simp only [Act.put, List.setIfInBounds_toArray, List.set_cons_zero, List.set_cons_succ]
              clear hS
              refine wpAnyH_done (by kernel_rfl) ?_ _
              repeat go_step
              refine bodyPost_ret (result_cell_tmp2 Tryz.results29 _ _ (w.heap.size) [.int .i64 (st0 : Int), .int .i64 mi, .slice af nf cf, (.slice aB nB cB), .bool clv] _ _ rfl rfl rfl HA8.out.range Tryz.underlying33 rfl (by kernel_rfl)) rfl ?_
              rw [HE.out]
              exact ⟨⟨af, cf, .slice aB nB cB, congrArg (fun x => Ending.returned (.tuple #[x, .int .i64 ((k + nb : Nat) : Int), .nilIface])) (rsV_eq HNf.out HCv.out).symm, Hid.of ⟨by unfold FdO; rw [HNf.out]; exact HF8.out, HO8.out⟩⟩, HU8.out⟩
end Go.Proofs.YtbgjnghjddcooaaGreatDoor
namespace Go.Proofs.YtbgjnghjddcooaaGreatDoor
open Go.RowKit Go.Shelf TextNum
theorem rsg_er {st fl : List UInt8} {k : Nat} (h : rsg st fl = .error k) : k < 12 := by
  unfold rsg at h
  split at h
  · rename_i he
    injection h with h
    subst h
    exact rsl_er he
  · split at h
    · rename_i he
      injection h with h
      subst h
      exact rdf_er he
    · split at h
      · rename_i he
        injection h with h
        subst h
        exact rsF_er he
      · cases h
theorem rsP_lt {l : List UInt8} {k : Nat} (h : rsP l = .error k) : k < 24 := msg_lt (by decide) (fun _ _ _ => rsg_er) h
def PsR (w w' : World) (e : Ending) : Er ((Rs × Bool × List UInt8) × Nat) → Prop
  | .error k => e = .returned (.tuple #[.agg z5.toArray, .int .i64 0, .int .i64 (numK k)])
  | .ok ((x, cl, b), n) => ∃ a c v, e = .returned (.tuple #[rsV x cl a c v, .int .i64 (n : Int), .int .i64 0]) ∧ Hid (FdO w' w.heap.size a x.fs c ∧ Ow w' w.heap.size v b)
set_option maxRecDepth 100000 in
set_option maxHeartbeats 4000000 in
theorem ParseResponse_walk (ad : Nat → Addr) {a : Option Addr} {n c : Nat} {ds : List UInt8} (hn40 : n ≤ 1099511627776) (w : World) (hS : Sb w (.slice a n c) ds) (hW : GW w ad) : Calls Tryz.prog 13 #[.slice a n c] w fun e w' => PsR w w' e (rsP ds) ∧ Up w w' := by
  have HW := Hid.of hW
  have HA0 := Hid.of (at_new w 33 z5)
  have HU0 := Hid.of ((Up.refl w).alloc (.cells z5.toArray 33))
  have HRq := Hid.of (readResponse_walk ad hn40 (w.alloc (.cells z5.toArray 33)) (hS.up HU0.out) (hW.up HU0.out))
  clear hW hS
  go_enter Tryz.func13, Tryz.ntmps13
  go_wp2_with fail
  change Calls _ _ _ (w.alloc (.cells z5.toArray 33)) _
  generalize w.alloc (.cells z5.toArray 33) = w1 at *
  refine HRq.out.mono ?_
  rintro e w2 ⟨hR, h9⟩
  have HU2 := Hid.of (HU0.out.trans h9)
  have HA2 := Hid.of (HA0.out.up h9)
  clear h9 HRq
  cases hr : rsP ds with
  | error k =>
    rw [hr] at hR
    obtain rfl : e = _ := hR
    have hk := rsP_lt hr
    have hne := er_neq ad k
    have hge := er_grd ad k
    have HE := Hid.of hr
    unfold z5
    dsimp only
    clear hr
    go_wp2_with fail
    have HU3 := Hid.of (HU2.out.alloc (.cells #[.int .i64 0, .int .i64 0, .slice none 0 0, .slice none 0 0, .bool false] 33))
    refine (numberOf_any ad k hk _ (HW.out.up HU3.out).ge).mono ?_
    rintro e w4 ⟨rfl, h9⟩
    have HU4 := Hid.of (HU3.out.trans h9)
    have HA4 := Hid.of ((HA2.out.up ((Up.refl w2).alloc _)).up h9)
    clear h9
    dsimp only
    go_wp2_with (with_reducible show wpList _ _ _ ({ dst := _, op := Op.store 33 (Operand.tmp 2) _, type := _, pos := _, after := _, guard := _ } :: _) _ _; refine Shut.out ?_)
    show wpList _ _ _ _ _ _
    refine wpList_store_at rfl 33 _ _ rfl (w.heap.size) HA4.out z5 rfl rfl rfl (by kernel_rfl) (by kernel_rfl) ?_
    intro w8 hA8 hg8
    have HA8 := Hid.of hA8
    have HU8 := Hid.of (HU4.out.by hg8 (fun g hg => by have := Option.some.inj hg; omega))
    clear hA8 hg8
    simp only [Act.put]
    repeat go_step
    refine bodyPost_ret (result_cell_tmp2 Tryz.results13 _ _ (w.heap.size) z5 _ _ rfl rfl rfl HA8.out.range Tryz.underlying33 rfl (by kernel_rfl)) rfl ?_
    rw [HE.out]
    exact ⟨rfl, HU8.out⟩
  | ok q =>
    obtain ⟨⟨x, cl, b⟩, m⟩ := q
    rw [hr] at hR
    obtain ⟨af, cf, v, rfl, hO⟩ := hR
    have HF2 := Hid.of (ow_base hO.out.1 HU0.out.size)
    have HB2 := Hid.of (ow_base hO.out.2 HU0.out.size)
    have HE := Hid.of hr
    clear hO hr
    obtain ⟨aB, nB, cB, rfl⟩ := Sb.shape (Ow.sb HB2.out)
    obtain ⟨rl, hrl⟩ : ∃ rl, rl = rsV x cl af cf (.slice aB nB cB) := ⟨_, rfl⟩
    have HRl := Hid.of hrl
    rw [← hrl]
    obtain ⟨nf, hnf⟩ : ∃ nf, nf = x.fs.length := ⟨_, rfl⟩
    have HRv := Hid.of (show rsV x cl af cf (.slice aB nB cB) = .agg #[.int .i64 (x.st : Int), .int .i64 x.mi, .slice af nf cf, .slice aB nB cB, .bool cl] by unfold rsV; rw [hnf])
    rw [hrl, HRv.out]
    clear hrl hnf HRl
    have HA3 := Hid.of (at_new w2 33 [.int .i64 (x.st : Int), .int .i64 x.mi, .slice af nf cf, .slice aB nB cB, .bool cl])
    have HU3 := Hid.of ((Up.refl w2).alloc (.cells [.int .i64 (x.st : Int), .int .i64 x.mi, .slice af nf cf, .slice aB nB cB, .bool cl].toArray 33))
    go_wp2_with (with_reducible show wpList _ _ _ ({ dst := _, op := Op.load 33 _, type := _, pos := _, after := _, guard := _ } :: _) _ _; refine Shut.out ?_)
    show wpList _ _ _ _ _ _
    refine wpList_load_mid rfl _ _ rfl w2.heap.size 0 rfl [.int .i64 (x.st : Int), .int .i64 x.mi, .slice af nf cf, .slice aB nB cB, .bool cl] _ HA3.out.range Tryz.underlying33 rfl (by kernel_rfl) ?_
    simp only [Act.put, List.setIfInBounds_toArray, List.set_cons_zero, List.set_cons_succ]
    go_wp2_with (with_reducible show wpList _ _ _ ({ dst := _, op := Op.store 33 (Operand.tmp 2) _, type := _, pos := _, after := _, guard := _ } :: _) _ _; refine Shut.out ?_)
    show wpList _ _ _ _ _ _
    refine wpList_store_at rfl 33 _ _ rfl (w.heap.size) (HA2.out.up HU3.out) [.int .i64 (x.st : Int), .int .i64 x.mi, .slice af nf cf, .slice aB nB cB, .bool cl] rfl rfl rfl (by kernel_rfl) (by kernel_rfl) ?_
    intro w8 hA8 hg8
    have HA8 := Hid.of hA8
    have HU8 := Hid.of ((HU2.out.trans HU3.out).by hg8 (fun g hg => by have := Option.some.inj hg; omega))
    have HF8 := Hid.of ((ow_up HF2.out HU3.out).kept hg8 (.inr (own_ne HF2.out HA2.out (by decide))))
    have HO8 := Hid.of ((ow_up HB2.out HU3.out).kept hg8 (.inr (own_ne HB2.out HA2.out (by decide))))
    clear hA8 hg8
    simp only [Act.put]
    repeat go_step
    refine bodyPost_ret (result_cell_tmp2 Tryz.results13 _ _ (w.heap.size) [.int .i64 (x.st : Int), .int .i64 x.mi, .slice af nf cf, .slice aB nB cB, .bool cl] _ _ rfl rfl rfl HA8.out.range Tryz.underlying33 rfl (by kernel_rfl)) rfl ?_
    rw [HE.out]
    exact ⟨⟨af, cf, .slice aB nB cB, congrArg (fun y => Ending.returned (.tuple #[y, .int .i64 (m : Int), .int .i64 0])) HRv.out.symm, Hid.of ⟨HF8.out, HO8.out⟩⟩, HU8.out⟩
end Go.Proofs.YtbgjnghjddcooaaGreatDoor
namespace Go.Proofs.YtbgjnghjddcooaaGreatDoor
open Go.RowKit Go.Shelf TextNum
theorem exec_loadFd {o : Oper} {ρ : Operand → Value} {x : Operand} {w : World} {b off : Nat} {n v : ByteArray} (ho : o.op = .load 73 x) (hx : ρ x = .pointer (some ⟨b, off, none⟩)) (h : w.rangeAt b off [.string n, .string v]) : (execOp ρ o).run Tryz.prog w = .ok (.value (.agg #[.string n, .string v])) w := by
  unfold execOp
  simp only [ho, hx]
  have := run_loadAt_mid (P := Tryz.prog) w b off 73 [.string n, .string v] _ h Tryz.underlying73 rfl infoFd2
  simp [this]
theorem exec_neqFd {o : Oper} {ρ : Operand → Value} {x y : Operand} {w : World} {n v : ByteArray} {t : TypeId} (ho : o.op = .binOp .neq 73 x y t) (hx : ρ x = .agg #[.string n, .string v]) (hy : ρ y = .agg #[.string n, .string v]) : (execOp ρ o).run Tryz.prog w = .ok (.value (.bool false)) w := by
  unfold execOp
  simp only [ho, hx, hy]
  go_simp
set_option maxRecDepth 100000 in
set_option maxHeartbeats 1000000 in
theorem alike_same (a1 a2 : Option Addr) (fs : List FD) (c1' c2' n : Nat) (hn : fs.length = n) (hl : n ≤ 1048576) (w : World) (h1 : FdL w a1 fs c1') (h2 : FdL w a2 fs c2') :
    Calls Tryz.prog 15 #[.slice a1 n c1', .slice a2 n c2'] w fun e w' => e = .returned (.bool true) ∧ Up w w' := by
  have HF1 := Hid.of h1
  have HF2 := Hid.of h2
  have HNn := Hid.of hn
  have hcap1 := h1.cap
  have hcap2 := h2.cap
  rw [hn] at hcap1 hcap2
  clear h1 h2 hn
  go_enter Tryz.func15, Tryz.ntmps15
  go_wp2
  go_loopw [5] (fun v5 wr => ∃ i : Nat, v5 = .int .i64 (i : Int) ∧ i ≤ n ∧ Hid (Up w wr)) (fun v5 _ => n - (intOf v5).toNat)
  case atStart => exact ⟨0, rfl, Nat.zero_le _, Hid.of (Up.refl _)⟩
  case round =>
    obtain ⟨i, rfl, hi, hU⟩ := hrel
    have HU := Hid.of hU.out
    clear hU
    by_cases hil : i < n
    · have hilz : (i : Int) < (n : Int) := by omega
      have hil2 : i < fs.length := by rw [HNn.out]; exact hil
      obtain ⟨b1, o1, rfl, k1, k2⟩ := HF1.out.cells i hil2
      obtain ⟨b2, o2, rfl, k3, k4⟩ := HF2.out.cells i hil2
      have HC := Hid.of (And.intro (HU.out.cell k1) (And.intro (HU.out.cell k2) (And.intro (HU.out.cell k3) (HU.out.cell k4))))
      obtain ⟨f, hf⟩ : ∃ f, fs[i] = f := ⟨_, rfl⟩
      rw [hf] at HC
      clear hf k1 k2 k3 k4 hil2
      go_wp2
      refine wp_region_held_drew (S := fun w2 => Up wr w2) (by kernel_rfl) (Up.refl wr).drew (fun hS => ?_)
      refine wpAnyH_take (i := 0) (oi := { dst := some 17, op := Go.Op.move (Go.Operand.tmp 0), type := 25, pos := "outright.go:18", after := #[], guard := none }) (v := .slice (some ⟨b1, o1, none⟩) n c1') rfl (by kernel_rfl) (by kernel_rfl) (by kernel_rfl) (fun _ _ _ h => h) (Or.inl ⟨by kernel_rfl, ?_⟩) hS ?_
      · intro w5 hSw
        clear hSw hS
        go_simp
      simp only [Act.put, List.setIfInBounds_toArray, List.set_cons_zero, List.set_cons_succ]
      refine wpAnyH_take (i := 1) (oi := { dst := some 18, op := Go.Op.move (Go.Operand.tmp 5), type := 3, pos := "outright.go:18", after := #[], guard := none }) (v := .int .i64 (i : Int)) rfl (by kernel_rfl) (by kernel_rfl) (by kernel_rfl) (fun _ _ _ h => h) (Or.inl ⟨by kernel_rfl, ?_⟩) hS ?_
      · intro w5 hSw
        clear hSw hS
        go_simp
      simp only [Act.put, List.setIfInBounds_toArray, List.set_cons_zero, List.set_cons_succ]
      refine wpAnyH_take (i := 2) (oi := { dst := some 19, op := Go.Op.indexAddr 25 (Go.Operand.tmp 17) (Go.Operand.tmp 18), type := 0, pos := "outright.go:18", after := #[{ on := 0, ground := Go.Ground.data }, { on := 1, ground := Go.Ground.data }], guard := none }) (v := .pointer (some ⟨b1, o1 + i * 2, none⟩)) rfl (by kernel_rfl) (by kernel_rfl) (by kernel_rfl) (fun _ _ _ h => h) (Or.inl ⟨by kernel_rfl, ?_⟩) hS ?_
      · intro w5 hSw
        clear hSw hS
        exact exec_idxFd i hil rfl rfl rfl
      simp only [Act.put, List.setIfInBounds_toArray, List.set_cons_zero, List.set_cons_succ]
      refine wpAnyH_take (i := 3) (oi := { dst := some 20, op := Go.Op.load 73 (Go.Operand.tmp 19), type := 73, pos := "outright.go:18", after := #[{ on := 2, ground := Go.Ground.data }], guard := none }) (v := .agg #[.string f.n, .string f.v]) rfl (by kernel_rfl) (by kernel_rfl) (by kernel_rfl) (fun _ _ _ h => h) (Or.inl ⟨by kernel_rfl, ?_⟩) hS ?_
      · intro w5 hSw
        have hk1 : w5.cell? ⟨b1, o1 + i * 2, none⟩ = some (.string f.n) := hSw.cell HC.out.1
        have hk2 : w5.cell? ⟨b1, o1 + i * 2 + 1, none⟩ = some (.string f.v) := hSw.cell HC.out.2.1
        clear hSw hS
        exact exec_loadFd rfl rfl (range2 hk1 hk2)
      simp only [Act.put, List.setIfInBounds_toArray, List.set_cons_zero, List.set_cons_succ]
      refine wpAnyH_take (i := 4) (oi := { dst := some 21, op := Go.Op.move (Go.Operand.tmp 1), type := 25, pos := "outright.go:18", after := #[], guard := none }) (v := .slice (some ⟨b2, o2, none⟩) n c2') rfl (by kernel_rfl) (by kernel_rfl) (by kernel_rfl) (fun _ _ _ h => h) (Or.inl ⟨by kernel_rfl, ?_⟩) hS ?_
      · intro w5 hSw
        clear hSw hS
        go_simp
      simp only [Act.put, List.setIfInBounds_toArray, List.set_cons_zero, List.set_cons_succ]
      refine wpAnyH_take (i := 5) (oi := { dst := some 22, op := Go.Op.move (Go.Operand.tmp 5), type := 3, pos := "outright.go:18", after := #[], guard := none }) (v := .int .i64 (i : Int)) rfl (by kernel_rfl) (by kernel_rfl) (by kernel_rfl) (fun _ _ _ h => h) (Or.inl ⟨by kernel_rfl, ?_⟩) hS ?_
      · intro w5 hSw
        clear hSw hS
        go_simp
      simp only [Act.put, List.setIfInBounds_toArray, List.set_cons_zero, List.set_cons_succ]
      refine wpAnyH_take (i := 6) (oi := { dst := some 23, op := Go.Op.indexAddr 25 (Go.Operand.tmp 21) (Go.Operand.tmp 22), type := 0, pos := "outright.go:18", after := #[{ on := 4, ground := Go.Ground.data }, { on := 5, ground := Go.Ground.data }], guard := none }) (v := .pointer (some ⟨b2, o2 + i * 2, none⟩)) rfl (by kernel_rfl) (by kernel_rfl) (by kernel_rfl) (fun _ _ _ h => h) (Or.inl ⟨by kernel_rfl, ?_⟩) hS ?_
      · intro w5 hSw
        clear hSw hS
        exact exec_idxFd i hil rfl rfl rfl
      simp only [Act.put, List.setIfInBounds_toArray, List.set_cons_zero, List.set_cons_succ]
      refine wpAnyH_take (i := 7) (oi := { dst := some 24, op := Go.Op.load 73 (Go.Operand.tmp 23), type := 73, pos := "outright.go:18", after := #[{ on := 6, ground := Go.Ground.data }], guard := none }) (v := .agg #[.string f.n, .string f.v]) rfl (by kernel_rfl) (by kernel_rfl) (by kernel_rfl) (fun _ _ _ h => h) (Or.inl ⟨by kernel_rfl, ?_⟩) hS ?_
      · intro w5 hSw
        have hk1 : w5.cell? ⟨b2, o2 + i * 2, none⟩ = some (.string f.n) := hSw.cell HC.out.2.2.1
        have hk2 : w5.cell? ⟨b2, o2 + i * 2 + 1, none⟩ = some (.string f.v) := hSw.cell HC.out.2.2.2
        clear hSw hS
        exact exec_loadFd rfl rfl (range2 hk1 hk2)
      simp only [Act.put, List.setIfInBounds_toArray, List.set_cons_zero, List.set_cons_succ]
      refine wpAnyH_take (i := 8) (oi := { dst := some 25, op := Go.Op.binOp Go.BinOp.neq 73 (Go.Operand.tmp 20) (Go.Operand.tmp 24) 73, type := 4, pos := "outright.go:18", after := #[{ on := 3, ground := Go.Ground.data }, { on := 7, ground := Go.Ground.data }], guard := none }) (v := .bool false) rfl (by kernel_rfl) (by kernel_rfl) (by kernel_rfl) (fun _ _ _ h => h) (Or.inl ⟨by kernel_rfl, ?_⟩) hS ?_
      · intro w5 hSw
        clear hSw hS
        exact exec_neqFd rfl rfl rfl
      simp only [Act.put, List.setIfInBounds_toArray, List.set_cons_zero, List.set_cons_succ]
      refine wpAnyH_done (by kernel_rfl) ?_ _
      have HS := Hid.of hS
      clear hS
      go_wp2
      go_roundw
      all_goals first
        | exact ⟨i + 1, by go_num, by omega, Hid.of (HU.out.trans HS.out)⟩
        | (simp [intOf]; omega)
    · have hilz : ¬ (i : Int) < (n : Int) := by omega
      go_wp2
      go_ret
      exact ⟨rfl, HU.out⟩
set_option maxRecDepth 100000 in
set_option maxHeartbeats 2000000 in
theorem twins_same (M T : ByteArray) (mi : Int) (fs : List FD) (nf : Nat) (cl : Bool) (a1 a2 : Option Addr) (c1' c2' : Nat) (v1 v2 : Value) (b : List UInt8) (hnf : fs.length = nf) (hl : nf ≤ 1048576) (w : World) (h1 : FdL w a1 fs c1') (h2 : FdL w a2 fs c2') (s1 : Sb w v1 b) (s2 : Sb w v2 b) :
    Calls Tryz.prog 12 #[.agg #[.string M, .string T, .int .i64 mi, .slice a1 nf c1', v1, .bool cl], .agg #[.string M, .string T, .int .i64 mi, .slice a2 nf c2', v2, .bool cl]] w fun e w' => e = .returned (.bool true) ∧ Up w w' := by
  obtain ⟨aB, nB, cB, rfl⟩ := Sb.shape s1
  obtain ⟨aC, nC, cC, rfl⟩ := Sb.shape s2
  have HNf := Hid.of hnf
  clear hnf
  obtain ⟨w1, hw1⟩ : ∃ w1, (w.alloc (.cells [.string M, .string T, .int .i64 mi, .slice a1 nf c1', .slice aB nB cB, .bool cl].toArray 27)).alloc (.cells [.string M, .string T, .int .i64 mi, .slice a2 nf c2', .slice aC nC cC, .bool cl].toArray 27) = w1 := ⟨_, rfl⟩
  have HU := Hid.of (show Up w w1 by rw [← hw1]; exact ((Up.refl w).alloc _).alloc _)
  have A1 : At w1 w.heap.size 27 [.string M, .string T, .int .i64 mi, .slice a1 nf c1', .slice aB nB cB, .bool cl] := by
    rw [← hw1]
    exact (at_new w 27 [.string M, .string T, .int .i64 mi, .slice a1 nf c1', .slice aB nB cB, .bool cl]).up ((Up.refl _).alloc _)
  have A2 : At w1 (w.heap.size + 1) 27 [.string M, .string T, .int .i64 mi, .slice a2 nf c2', .slice aC nC cC, .bool cl] := by
    rw [← hw1]
    have := at_new (w.alloc (.cells [.string M, .string T, .int .i64 mi, .slice a1 nf c1', .slice aB nB cB, .bool cl].toArray 27)) 27 [.string M, .string T, .int .i64 mi, .slice a2 nf c2', .slice aC nC cC, .bool cl]
    rw [alloc_size] at this
    exact this
  have HA1 := Hid.of A1
  have HA2 := Hid.of A2
  have HAl := Hid.of (alike_same a1 a2 fs c1' c2' nf HNf.out hl w1 (h1.up HU.out) (h2.up HU.out))
  have HS1 := Hid.of s1
  have HS2 := Hid.of s2
  go_enter Tryz.func12, Tryz.ntmps12
  go_wp2_with (with_reducible show wpList _ _ _ ({ dst := _, op := Op.fieldAddr 27 _ _, type := _, pos := _, after := _, guard := _ } :: _) _ _; refine Shut.out ?_)
  show wpList _ _ _ _ _ _
  clear hw1 s1 s2 h1 h2
  have p0 : w1.cell? ⟨w.heap.size, 0, none⟩ = _ := A1.cell (i := 0) rfl
  have p1 : w1.cell? ⟨w.heap.size, 1, none⟩ = _ := A1.cell (i := 1) rfl
  have p2 : w1.cell? ⟨w.heap.size, 2, none⟩ = _ := A1.cell (i := 2) rfl
  have p3 : w1.cell? ⟨w.heap.size, 3, none⟩ = _ := A1.cell (i := 3) rfl
  have p5 : w1.cell? ⟨w.heap.size, 5, none⟩ = _ := A1.cell (i := 5) rfl
  have q0 : w1.cell? ⟨w.heap.size + 1, 0, none⟩ = _ := A2.cell (i := 0) rfl
  have q1 : w1.cell? ⟨w.heap.size + 1, 1, none⟩ = _ := A2.cell (i := 1) rfl
  have q2 : w1.cell? ⟨w.heap.size + 1, 2, none⟩ = _ := A2.cell (i := 2) rfl
  have q3 : w1.cell? ⟨w.heap.size + 1, 3, none⟩ = _ := A2.cell (i := 3) rfl
  have q5 : w1.cell? ⟨w.heap.size + 1, 5, none⟩ = _ := A2.cell (i := 5) rfl
  clear A1 A2
  have e1 : (M.toList == M.toList) = true := beq_self_eq_true _
  have e2 : (T.toList == T.toList) = true := beq_self_eq_true _
  have e3 : (mi == mi) = true := beq_self_eq_true _
  have e4 : (cl == cl) = true := beq_self_eq_true _
  go_wp2_with fail
  refine HAl.out.mono ?_
  rintro e w2 ⟨rfl, u2⟩
  have HU2 := Hid.of (HU.out.trans u2)
  have p4 : w2.cell? ⟨w.heap.size, 4, none⟩ = some (.slice aB nB cB) := (HA1.out.up u2).cell (i := 4) rfl
  have q4 : w2.cell? ⟨w.heap.size + 1, 4, none⟩ = some (.slice aC nC cC) := (HA2.out.up u2).cell (i := 4) rfl
  have cv1 := conv_sb2 (HS1.out.up HU2.out)
  have cv2 := conv_sb2 (HS2.out.up HU2.out)
  clear u2 p0 p1 p2 p3 p5 q0 q1 q2 q3 q5
  dsimp only
  obtain ⟨B, hB⟩ : ∃ B : ByteArray, (⟨b.toArray⟩ : ByteArray) = B := ⟨_, rfl⟩
  rw [hB] at cv1 cv2
  have e5 : (B.toList == B.toList) = true := beq_self_eq_true _
  go_wp2
  go_ret
  exact ⟨rfl, HU2.out⟩
set_option maxRecDepth 100000 in
set_option maxHeartbeats 2000000 in
theorem pairs_same (st mi : Int) (fs : List FD) (nf : Nat) (cl : Bool) (a1 a2 : Option Addr) (c1' c2' : Nat) (v1 v2 : Value) (b : List UInt8) (hnf : fs.length = nf) (hl : nf ≤ 1048576) (w : World) (h1 : FdL w a1 fs c1') (h2 : FdL w a2 fs c2') (s1 : Sb w v1 b) (s2 : Sb w v2 b) :
    Calls Tryz.prog 16 #[.agg #[.int .i64 st, .int .i64 mi, .slice a1 nf c1', v1, .bool cl], .agg #[.int .i64 st, .int .i64 mi, .slice a2 nf c2', v2, .bool cl]] w fun e w' => e = .returned (.bool true) ∧ Up w w' := by
  obtain ⟨aB, nB, cB, rfl⟩ := Sb.shape s1
  obtain ⟨aC, nC, cC, rfl⟩ := Sb.shape s2
  have HNf := Hid.of hnf
  clear hnf
  obtain ⟨w1, hw1⟩ : ∃ w1, (w.alloc (.cells [.int .i64 st, .int .i64 mi, .slice a1 nf c1', .slice aB nB cB, .bool cl].toArray 33)).alloc (.cells [.int .i64 st, .int .i64 mi, .slice a2 nf c2', .slice aC nC cC, .bool cl].toArray 33) = w1 := ⟨_, rfl⟩
  have HU := Hid.of (show Up w w1 by rw [← hw1]; exact ((Up.refl w).alloc _).alloc _)
  have A1 : At w1 w.heap.size 33 [.int .i64 st, .int .i64 mi, .slice a1 nf c1', .slice aB nB cB, .bool cl] := by
    rw [← hw1]
    exact (at_new w 33 [.int .i64 st, .int .i64 mi, .slice a1 nf c1', .slice aB nB cB, .bool cl]).up ((Up.refl _).alloc _)
  have A2 : At w1 (w.heap.size + 1) 33 [.int .i64 st, .int .i64 mi, .slice a2 nf c2', .slice aC nC cC, .bool cl] := by
    rw [← hw1]
    have := at_new (w.alloc (.cells [.int .i64 st, .int .i64 mi, .slice a1 nf c1', .slice aB nB cB, .bool cl].toArray 33)) 33 [.int .i64 st, .int .i64 mi, .slice a2 nf c2', .slice aC nC cC, .bool cl]
    rw [alloc_size] at this
    exact this
  have HA1 := Hid.of A1
  have HA2 := Hid.of A2
  have HAl := Hid.of (alike_same a1 a2 fs c1' c2' nf HNf.out hl w1 (h1.up HU.out) (h2.up HU.out))
  have HS1 := Hid.of s1
  have HS2 := Hid.of s2
  go_enter Tryz.func16, Tryz.ntmps16
  go_wp2_with (with_reducible show wpList _ _ _ ({ dst := _, op := Op.fieldAddr 33 _ _, type := _, pos := _, after := _, guard := _ } :: _) _ _; refine Shut.out ?_)
  show wpList _ _ _ _ _ _
  clear hw1 s1 s2 h1 h2
  have p0 : w1.cell? ⟨w.heap.size, 0, none⟩ = _ := A1.cell (i := 0) rfl
  have p1 : w1.cell? ⟨w.heap.size, 1, none⟩ = _ := A1.cell (i := 1) rfl
  have p2 : w1.cell? ⟨w.heap.size, 2, none⟩ = _ := A1.cell (i := 2) rfl
  have p5 : w1.cell? ⟨w.heap.size, 4, none⟩ = _ := A1.cell (i := 4) rfl
  have q0 : w1.cell? ⟨w.heap.size + 1, 0, none⟩ = _ := A2.cell (i := 0) rfl
  have q1 : w1.cell? ⟨w.heap.size + 1, 1, none⟩ = _ := A2.cell (i := 1) rfl
  have q2 : w1.cell? ⟨w.heap.size + 1, 2, none⟩ = _ := A2.cell (i := 2) rfl
  have q5 : w1.cell? ⟨w.heap.size + 1, 4, none⟩ = _ := A2.cell (i := 4) rfl
  clear A1 A2
  have e1 : (st == st) = true := beq_self_eq_true _
  have e3 : (mi == mi) = true := beq_self_eq_true _
  have e4 : (cl == cl) = true := beq_self_eq_true _
  go_wp2_with fail
  refine HAl.out.mono ?_
  rintro e w2 ⟨rfl, u2⟩
  have HU2 := Hid.of (HU.out.trans u2)
  have p4 : w2.cell? ⟨w.heap.size, 3, none⟩ = some (.slice aB nB cB) := (HA1.out.up u2).cell (i := 3) rfl
  have q4 : w2.cell? ⟨w.heap.size + 1, 3, none⟩ = some (.slice aC nC cC) := (HA2.out.up u2).cell (i := 3) rfl
  have cv1 := conv_sb2 (HS1.out.up HU2.out)
  have cv2 := conv_sb2 (HS2.out.up HU2.out)
  clear u2 p0 p1 p2 p5 q0 q1 q2 q5
  dsimp only
  obtain ⟨B, hB⟩ : ∃ B : ByteArray, (⟨b.toArray⟩ : ByteArray) = B := ⟨_, rfl⟩
  rw [hB] at cv1 cv2
  have e5 : (B.toList == B.toList) = true := beq_self_eq_true _
  go_wp2
  go_ret
  exact ⟨rfl, HU2.out⟩
/-- what padded answers -/
def pdd (b : List UInt8) (pad : Int) : List UInt8 := b ++ List.replicate (min pad.toNat 1100000) 120
set_option maxRecDepth 100000 in
set_option maxHeartbeats 1000000 in
theorem padded_walk (v : Value) (b : List UInt8) (pad : Int) (hb : b.length ≤ 1099511627) (w : World) (hS : Sb w v b) : Calls Tryz.prog 10 #[v, .int .i64 pad] w fun e w' => ∃ v', e = .returned v' ∧ Ow w' w.heap.size v' (pdd b pad) ∧ Up w w' := by
  have HS := Hid.of hS
  have HPd := Hid.of (show pdd b pad = b ++ List.replicate (min pad.toNat 1100000) 120 from rfl)
  clear hS
  obtain ⟨nb, hnb⟩ : ∃ nb, b.length = nb := ⟨_, rfl⟩
  have HNb := Hid.of hnb
  rw [hnb] at hb
  clear hnb
  obtain ⟨aV, nV, cV, rfl⟩ := Sb.shape HS.out
  go_enter Tryz.func10, Tryz.ntmps10
  go_wp2_with (with_reducible show wpList _ _ _ ({ dst := _, op := Op.call { callee := Callee.builtin Builtin.append, args := _, argTypes := _ }, type := _, pos := _, after := _, guard := _ } :: _) _ _; refine Shut.out ?_)
  show wpList _ _ _ _ _ _
  refine wpList_appSb (N := w.heap.size) rfl _ _ rfl none 0 [] _ b rfl rfl HS.out (World.ownsRow_nil _ _ _ _) (Nat.le_refl _) (by rw [HNb.out]; omega) ?_
  intro a1 c1' w1 o1 hu1
  have HU1 := Hid.of (hu1 w (Up.refl w) (Nat.le_refl _))
  rw [HNb.out, Nat.zero_add, List.nil_append] at o1
  rw [HNb.out, Nat.zero_add]
  have HO1 := Hid.of o1
  clear o1 hu1
  simp only [Act.put, List.setIfInBounds_toArray, List.set_cons_zero, List.set_cons_succ]
  go_wp2
  go_loopw [5, 6] (fun v5 v6 wr => ∃ (i : Nat) (a5 : Option Addr) (c5 : Nat), v6 = .int .i64 (i : Int) ∧ v5 = .slice a5 (nb + i) c5 ∧ i ≤ 1100000 ∧ Hid (Up w wr ∧ wr.ownsRow w.heap.size 5 1 (.slice a5 (nb + i) c5) (nb + i) (cb (b ++ List.replicate i 120)) ∧ i ≤ min pad.toNat 1100000)) (fun _ v6 _ => 1100000 - (intOf v6).toNat)
  case atStart => exact ⟨0, a1, c1', rfl, rfl, by omega, Hid.of ⟨HU1.out, by simpa using HO1.out, Nat.zero_le _⟩⟩
  case round =>
    obtain ⟨i, a5, c5, rfl, rfl, hi, hQ⟩ := hrel
    have HQ := Hid.of hQ.out
    clear hQ
    by_cases hp : (i : Int) < pad
    · by_cases hm : i < 1100000
      · have hmz : (i : Int) < 1100000 := by omega
        have HX := Hid.of (show Sb (wr.alloc (.cells #[.int .u8 120] 5)) (.slice (some ⟨wr.heap.size, 0, none⟩) 1 1) [120] from by
          refine ⟨_, 1, rfl, by simp, by simp [maxLen], (fun e => by cases e), fun ad e => ?_⟩
          obtain rfl := Option.some.inj e
          exact ⟨fun _ => rfl, fun j u hj => by rw [Addr.add_lit]; exact At.cell (at_new wr 5 [.int .u8 120]) (i := 0 + j) (by rw [Nat.zero_add]; exact hj)⟩)
        go_wp2_with (with_reducible show wpList _ _ _ ({ dst := _, op := Op.call { callee := Callee.builtin Builtin.append, args := _, argTypes := _ }, type := _, pos := _, after := _, guard := _ } :: _) _ _; refine Shut.out ?_)
        show wpList _ _ _ _ _ _
        refine wpList_appSb (N := w.heap.size) rfl _ _ rfl a5 c5 (b ++ List.replicate i 120) _ [120] rfl rfl HX.out (ow_up HQ.out.2.1 ((Up.refl wr).alloc _)) (Nat.le_trans HQ.out.1.size (by rw [alloc_size]; omega)) (by simp; omega) ?_
        intro a2 c2' w2 o2 hu2
        have HU2 := Hid.of (hu2 w (HQ.out.1.alloc _) (Nat.le_refl _))
        have HO2 := Hid.of (show w2.ownsRow w.heap.size 5 1 (.slice a2 (nb + (i + 1)) c2') (nb + (i + 1)) (cb (b ++ List.replicate (i + 1) 120)) by
          rw [List.replicate_succ', ← List.append_assoc, ← Nat.add_assoc]
          exact o2)
        clear o2 hu2
        simp only [Act.put, List.setIfInBounds_toArray, List.set_cons_zero, List.set_cons_succ]
        simp only [List.length_cons, List.length_nil, Nat.zero_add]
        rw [show nb + i + 1 = nb + (i + 1) from Nat.add_assoc _ _ _]
        go_wp2
        go_roundw
        all_goals first
          | exact ⟨i + 1, a2, c2', by go_num, rfl, by omega, Hid.of ⟨HU2.out, HO2.out, by have := HQ.out.2.2; omega⟩⟩
          | (simp [intOf]; omega)
      · have hmz : ¬ (i : Int) < 1100000 := by omega
        have HE := Hid.of (show pdd b pad = b ++ List.replicate i 120 by rw [HPd.out, show min pad.toNat 1100000 = i by omega])
        have HL := Hid.of (show (b ++ List.replicate i 120).length = nb + i by simp [HNb.out])
        go_wp2
        go_ret
        refine ⟨_, rfl, ?_, HQ.out.1⟩
        rw [HE.out]
        unfold Ow
        rw [HL.out]
        exact HQ.out.2.1
    · have HE := Hid.of (show pdd b pad = b ++ List.replicate i 120 by rw [HPd.out, show min pad.toNat 1100000 = i by have := HQ.out.2.2; omega])
      have HL := Hid.of (show (b ++ List.replicate i 120).length = nb + i by simp [HNb.out])
      go_wp2
      go_ret
      refine ⟨_, rfl, ?_, HQ.out.1⟩
      rw [HE.out]
      unfold Ow
      rw [HL.out]
      exact HQ.out.2.1
end Go.Proofs.YtbgjnghjddcooaaGreatDoor
namespace Go.Proofs.YtbgjnghjddcooaaGreatDoor
open Go.RowKit Go.Shelf TextNum
/-- the request that known asks -/
def kn : List UInt8 := [80, 85, 84, 32, 47, 97, 32, 72, 84, 84, 80, 47, 49, 46, 49, 13, 10, 72, 111, 115, 116, 58, 32, 98, 13, 10, 67, 111, 110, 116, 101, 110, 116, 45, 76, 101, 110, 103, 116, 104, 58, 32, 50, 13, 10, 13, 10, 104, 105, 33]
def knX : Rq := ⟨[80, 85, 84], [47, 97], 1, [⟨⟨#[72, 111, 115, 116]⟩, ⟨#[98]⟩⟩, ⟨⟨#[67, 111, 110, 116, 101, 110, 116, 45, 76, 101, 110, 103, 116, 104]⟩, ⟨#[50]⟩⟩]⟩
theorem kn_hd : cHd 9 kn = .ok (kn.take 15, (kn.drop 17).take 28, 47) := by kernel_rfl
theorem kn_rql : rql (kn.take 15) = .ok ([80, 85, 84], [47, 97], 1) := by kernel_rfl
theorem kn_rdf : rdf ((kn.drop 17).take 28) = .ok knX.fs := by kernel_rfl
theorem kn_ckh : ckh knX.fs 1 = none := by kernel_rfl
theorem kn_frm : frm knX.fs 1 0 = .ok (2, 2) := by kernel_rfl
theorem kn_fcu : fcu 2 2 (kn.drop 47) = .ok ([104, 105], 2) := by kernel_rfl
theorem kn_cls : cls (knX.mi == 0) knX.fs = false := by kernel_rfl
theorem rq_kn : rqP kn = .ok ((knX, [104, 105]), 49) := by
  unfold rqP msg
  rw [kn_hd]
  dsimp only
  unfold rqg
  rw [kn_rql]
  dsimp only
  rw [kn_rdf]
  dsimp only
  rw [kn_ckh]
  dsimp only
  rw [kn_frm]
  dsimp only
  rw [kn_fcu]
  rfl
theorem kn_cells : (cb kn).toArray = #[.int .u8 80, .int .u8 85, .int .u8 84, .int .u8 32, .int .u8 47, .int .u8 97, .int .u8 32, .int .u8 72, .int .u8 84, .int .u8 84, .int .u8 80, .int .u8 47, .int .u8 49, .int .u8 46, .int .u8 49, .int .u8 13, .int .u8 10, .int .u8 72, .int .u8 111, .int .u8 115, .int .u8 116, .int .u8 58, .int .u8 32, .int .u8 98, .int .u8 13, .int .u8 10, .int .u8 67, .int .u8 111, .int .u8 110, .int .u8 116, .int .u8 101, .int .u8 110, .int .u8 116, .int .u8 45, .int .u8 76, .int .u8 101, .int .u8 110, .int .u8 103, .int .u8 116, .int .u8 104, .int .u8 58, .int .u8 32, .int .u8 50, .int .u8 13, .int .u8 10, .int .u8 13, .int .u8 10, .int .u8 104, .int .u8 105, .int .u8 33] := by kernel_rfl
/-- bytes of a constant -/
theorem sb_mkl (w : World) (l : List UInt8) (m : Nat × Nat) (hl : l.length ≤ 1048576) : Sb (w.alloc (.cells (cb l).toArray 5 m)) (.slice (some ⟨w.heap.size, 0, none⟩) l.length l.length) l := by
  refine ⟨_, l.length, rfl, Nat.le_refl _, by unfold maxLen; omega, (fun e => by cases e), fun ad e => ?_⟩
  obtain rfl := Option.some.inj e
  refine ⟨fun _ => rfl, fun j u hj => ?_⟩
  rw [Addr.add_lit]
  unfold World.cell?
  dsimp only
  rw [heap_alloc_new w _, Nat.zero_add]
  simpa using hj
theorem knV (a : Option Addr) (c : Nat) (v : Value) : rqV knX a c v = .agg #[.string ⟨#[80, 85, 84]⟩, .string ⟨#[47, 97]⟩, .int .i64 1, .slice a 2 c, v, .bool false] := by
  unfold rqV
  rw [kn_cls]
  rfl
set_option maxRecDepth 100000 in
set_option maxHeartbeats 2000000 in
theorem known_walk (ad : Nat → Addr) (w : World) (hW : GW w ad) : Calls Tryz.prog 9 #[] w fun e w' => e = .returned (.bool true) ∧ Up w w' := by
  have hcv := Go.Lib.run_convert_bytes_const (P := Tryz.prog) w 22 5 #[.int .u8 80, .int .u8 85, .int .u8 84, .int .u8 32, .int .u8 47, .int .u8 97, .int .u8 32, .int .u8 72, .int .u8 84, .int .u8 84, .int .u8 80, .int .u8 47, .int .u8 49, .int .u8 46, .int .u8 49, .int .u8 13, .int .u8 10, .int .u8 72, .int .u8 111, .int .u8 115, .int .u8 116, .int .u8 58, .int .u8 32, .int .u8 98, .int .u8 13, .int .u8 10, .int .u8 67, .int .u8 111, .int .u8 110, .int .u8 116, .int .u8 101, .int .u8 110, .int .u8 116, .int .u8 45, .int .u8 76, .int .u8 101, .int .u8 110, .int .u8 103, .int .u8 116, .int .u8 104, .int .u8 58, .int .u8 32, .int .u8 50, .int .u8 13, .int .u8 10, .int .u8 13, .int .u8 10, .int .u8 104, .int .u8 105, .int .u8 33] 50 50 Tryz.underlying22 Tryz.underlying5
  have HSk := Hid.of (sb_mkl w kn (50, 51) (by decide))
  rw [kn_cells] at HSk
  have HU1 := Hid.of ((Up.refl w).alloc (.cells #[.int .u8 80, .int .u8 85, .int .u8 84, .int .u8 32, .int .u8 47, .int .u8 97, .int .u8 32, .int .u8 72, .int .u8 84, .int .u8 84, .int .u8 80, .int .u8 47, .int .u8 49, .int .u8 46, .int .u8 49, .int .u8 13, .int .u8 10, .int .u8 72, .int .u8 111, .int .u8 115, .int .u8 116, .int .u8 58, .int .u8 32, .int .u8 98, .int .u8 13, .int .u8 10, .int .u8 67, .int .u8 111, .int .u8 110, .int .u8 116, .int .u8 101, .int .u8 110, .int .u8 116, .int .u8 45, .int .u8 76, .int .u8 101, .int .u8 110, .int .u8 103, .int .u8 116, .int .u8 104, .int .u8 58, .int .u8 32, .int .u8 50, .int .u8 13, .int .u8 10, .int .u8 13, .int .u8 10, .int .u8 104, .int .u8 105, .int .u8 33] 5 (50, 51)))
  have HPq := Hid.of (ParseRequest_walk ad (n := 50) (c := 50) (by decide) _ HSk.out (hW.up HU1.out))
  rw [rq_kn] at HPq
  clear hW HSk
  go_enter Tryz.func9, Tryz.ntmps9
  go_wp2_with fail
  refine HPq.out.mono ?_
  rintro e w2 ⟨⟨a, c, v, rfl, hO⟩, h9⟩
  have HU2 := Hid.of (HU1.out.trans h9)
  have HSb := Hid.of (Ow.sb hO.out.2)
  clear h9 hO hcv HPq HU1
  obtain ⟨aB, nB, cB, rfl⟩ := Sb.shape HSb.out
  rw [knV]
  dsimp only
  have HU3 := Hid.of ((Up.refl w2).alloc (.cells #[.string ⟨#[80, 85, 84]⟩, .string ⟨#[47, 97]⟩, .int .i64 1, .slice a 2 c, .slice aB nB cB, .bool false] 27))
  have cv := conv_sb2 (HSb.out.up HU3.out)
  go_wp2
  go_ret
  exact ⟨rfl, HU2.out.alloc _⟩
end Go.Proofs.YtbgjnghjddcooaaGreatDoor
namespace Go.Proofs.YtbgjnghjddcooaaGreatDoor
open Go.RowKit Go.Shelf TextNum
/-- what is told of a request -/
structure QD where
  m : ByteArray
  t : ByteArray
  mi : Int
  fs : List FD
  cl : Bool
  b : List UInt8
  n : Int
  e : Int
def datQ : Er ((Rq × List UInt8) × Nat) → QD
  | .error k => ⟨⟨#[]⟩, ⟨#[]⟩, 0, [], false, [], 0, numK k⟩
  | .ok ((x, b), n) => ⟨⟨x.m.toArray⟩, ⟨x.t.toArray⟩, x.mi, x.fs, cls (x.mi == 0) x.fs, b, (n : Int), 0⟩
/-- what is told of a response -/
structure SD where
  st : Int
  mi : Int
  fs : List FD
  cl : Bool
  b : List UInt8
  n : Int
  e : Int
def datS : Er ((Rs × Bool × List UInt8) × Nat) → SD
  | .error k => ⟨0, 0, [], false, [], 0, numK k⟩
  | .ok ((x, cl, b), n) => ⟨(x.st : Int), x.mi, x.fs, cl, b, (n : Int), 0⟩
def qV (d : QD) (a : Option Addr) (c : Nat) (v : Value) : Value := .agg #[.string d.m, .string d.t, .int .i64 d.mi, .slice a d.fs.length c, v, .bool d.cl]
def sV (d : SD) (a : Option Addr) (c : Nat) (v : Value) : Value := .agg #[.int .i64 d.st, .int .i64 d.mi, .slice a d.fs.length c, v, .bool d.cl]
/-- fields and their texts are small -/
def Sml (fs : List FD) : Prop := fs.length ≤ 1048576 ∧ ∀ f ∈ fs, f.n.size ≤ 1048576 ∧ f.v.size ≤ 1048576
theorem sml_nil : Sml [] := ⟨by simp, fun f hf => by cases hf⟩
theorem rdf_sml {l : List UInt8} {fs : List FD} (hl : l.length ≤ 16384) (h : rdf l = .ok fs) : Sml fs := by
  have h1 := rdf_small h
  exact ⟨by omega, fun f hf => by have := h1.2 f hf; omega⟩
theorem rqg_ok {st fl : List UInt8} {x : Rq} {way : Int} {len : Nat} (h : rqg st fl = .ok (x, way, len)) : rql st = .ok (x.m, x.t, x.mi) ∧ rdf fl = .ok x.fs ∧ ckh x.fs x.mi = none ∧ frm x.fs x.mi 0 = .ok (way, len) := by
  unfold rqg at h
  split at h
  · cases h
  · rename_i m t mi h1
    split at h
    · cases h
    · rename_i fs h2
      split at h
      · cases h
      · rename_i h3
        split at h
        · cases h
        · rename_i w l h4
          injection h with h
          injection h with e1 e2
          injection e2 with e2 e3
          subst e1 e2 e3
          exact ⟨h1, h2, h3, h4⟩
theorem rsg_ok {st fl : List UInt8} {x : Rs} {way : Int} {len : Nat} (h : rsg st fl = .ok (x, way, len)) : rsl st = .ok (x.st, x.mi) ∧ rdf fl = .ok x.fs ∧ rsF (x.st : Int) x.fs x.mi = .ok (way, len) := by
  unfold rsg at h
  split at h
  · cases h
  · rename_i s mi h1
    split at h
    · cases h
    · rename_i fs h2
      split at h
      · cases h
      · rename_i w l h4
        injection h with h
        injection h with e1 e2
        injection e2 with e2 e3
        subst e1 e2 e3
        exact ⟨h1, h2, h4⟩
theorem datQ_sml {l : List UInt8} : Sml (datQ (rqP l)).fs := by
  cases h : rqP l with
  | error k => exact sml_nil
  | ok q =>
    obtain ⟨⟨x, b⟩, n⟩ := q
    obtain ⟨st, fl, k, x', way, len, b', h1, h2, h3, h4, _⟩ := msg_ok h
    injection h4 with e1 e2
    subst e1
    exact rdf_sml (cHd_ok h1).2.2.2.1 (rqg_ok h2).2.1
theorem datS_sml {l : List UInt8} : Sml (datS (rsP l)).fs := by
  cases h : rsP l with
  | error k => exact sml_nil
  | ok q =>
    obtain ⟨⟨x, cl, b⟩, n⟩ := q
    obtain ⟨st, fl, k, x', way, len, b', h1, h2, h3, h4, _⟩ := msg_ok h
    injection h4 with e1 e2
    subst e1
    exact rdf_sml (cHd_ok h1).2.2.2.1 (rsg_ok h2).2.1
theorem fdl_nil (w : World) : FdL w none [] 0 := ⟨Nat.le_refl _, fun i h => by cases h⟩
theorem sb_nil' (w : World) : Sb w (.slice none 0 0) [] := ⟨none, 0, rfl, by simp, by simp, fun _ => ⟨rfl, rfl⟩, fun _ e => by cases e⟩
theorem fdo_nil (w : World) (N : Nat) : FdO w N none [] 0 := World.ownsRow_nil _ _ _ _
theorem ow_nil (w : World) (N : Nat) : Ow w N (.slice none 0 0) [] := World.ownsRow_nil _ _ _ _
theorem ParseRequest_dat (ad : Nat → Addr) {a : Option Addr} {n c : Nat} {ds : List UInt8} (hn40 : n ≤ 1099511627776) (w : World) (hS : Sb w (.slice a n c) ds) (hW : GW w ad) : Calls Tryz.prog 11 #[.slice a n c] w fun e w' => ∃ a c v, e = .returned (.tuple #[qV (datQ (rqP ds)) a c v, .int .i64 (datQ (rqP ds)).n, .int .i64 (datQ (rqP ds)).e]) ∧ Hid (FdO w' w.heap.size a (datQ (rqP ds)).fs c ∧ Ow w' w.heap.size v (datQ (rqP ds)).b) ∧ Up w w' := by
  refine (ParseRequest_walk ad hn40 w hS hW).mono ?_
  rintro e w' ⟨hR, hU⟩
  cases h : rqP ds with
  | error k =>
    rw [h] at hR
    obtain rfl : e = _ := hR
    exact ⟨none, 0, .slice none 0 0, rfl, Hid.of ⟨fdo_nil _ _, ow_nil _ _⟩, hU⟩
  | ok q =>
    obtain ⟨⟨x, b⟩, m⟩ := q
    rw [h] at hR
    obtain ⟨a, c, v, rfl, hO⟩ := hR
    exact ⟨a, c, v, rfl, hO, hU⟩
theorem ParseResponse_dat (ad : Nat → Addr) {a : Option Addr} {n c : Nat} {ds : List UInt8} (hn40 : n ≤ 1099511627776) (w : World) (hS : Sb w (.slice a n c) ds) (hW : GW w ad) : Calls Tryz.prog 13 #[.slice a n c] w fun e w' => ∃ a c v, e = .returned (.tuple #[sV (datS (rsP ds)) a c v, .int .i64 (datS (rsP ds)).n, .int .i64 (datS (rsP ds)).e]) ∧ Hid (FdO w' w.heap.size a (datS (rsP ds)).fs c ∧ Ow w' w.heap.size v (datS (rsP ds)).b) ∧ Up w w' := by
  refine (ParseResponse_walk ad hn40 w hS hW).mono ?_
  rintro e w' ⟨hR, hU⟩
  cases h : rsP ds with
  | error k =>
    rw [h] at hR
    obtain rfl : e = _ := hR
    exact ⟨none, 0, .slice none 0 0, rfl, Hid.of ⟨fdo_nil _ _, ow_nil _ _⟩, hU⟩
  | ok q =>
    obtain ⟨⟨x, cl, b⟩, m⟩ := q
    rw [h] at hR
    obtain ⟨a, c, v, rfl, hO⟩ := hR
    exact ⟨a, c, v, rfl, hO, hU⟩
/-! what holds of them -/
theorem numK_n : ∀ k, k < 24 → k ≠ 14 → (numK k = 140 ↔ k = 2) ∧ numK k ≠ 0 := by decide +kernel
theorem msg_14 {X Y : Type} {pl : Nat} {g : List UInt8 → List UInt8 → Er (X × Int × Nat)} {mk : X → Int → List UInt8 → Y} {l : List UInt8} {k : Nat} (hp : pl ≠ 2) (hg : ∀ st fl k, g st fl = .error k → k < 12) (h : msg pl g mk l = .error k) : k ≠ 14 := by
  unfold msg at h
  split at h
  · rename_i he
    injection h with h
    subst h
    have := cHd_er he
    omega
  · split at h
    · rename_i he
      injection h with h
      subst h
      have := hg _ _ _ he
      omega
    · split at h
      · rename_i he
        injection h with h
        subst h
        have := fcu_er he
        omega
      · cases h
theorem rqP_num {l : List UInt8} {k : Nat} (h : rqP l = .error k) : (numK k = 140 ↔ k = 2) ∧ numK k ≠ 0 := numK_n k (rqP_lt h) (msg_14 (by decide) (fun _ _ _ => rqg_er) h)
theorem rsP_num {l : List UInt8} {k : Nat} (h : rsP l = .error k) : (numK k = 140 ↔ k = 2) ∧ numK k ≠ 0 := numK_n k (rsP_lt h) (msg_14 (by decide) (fun _ _ _ => rsg_er) h)
theorem frm_way {fs : List FD} {mi u way : Int} {n : Nat} (h : frm fs mi u = .ok (way, n)) : (way = u ∧ fs.countP tls = 0) ∨ way = 3 ∨ way = 2 := by
  unfold frm frl at h
  split at h
  · cases h
  · split at h
    · cases h
    · split at h
      · rename_i h0
        injection h with h
        injection h with e1 e2
        exact .inl ⟨e1.symm, h0⟩
      · split at h
        · injection h with h
          injection h with e1 e2
          exact .inr (.inl e1.symm)
        · split at h
          · injection h with h
            injection h with e1 e2
            exact .inr (.inr e1.symm)
          · split at h <;> cases h
theorem rqP_ok {l : List UInt8} {x : Rq} {b : List UInt8} {n : Nat} (h : rqP l = .ok ((x, b), n)) (t : List UInt8) : rqP (l ++ t) = .ok ((x, b), n) ∧ n ≤ l.length := by
  obtain ⟨st, fl, k, x', way, len, b', h1, h2, h3, h4, h5, h6, h7, h8, h9⟩ := msg_ok h
  have hw : way ≠ 1 := by
    have := frm_way (rqg_ok h2).2.2.2
    omega
  exact ⟨(h9 t).1 hw, h6⟩
/-- more bytes behind a request -/
theorem fixQ (l t : List UInt8) : ((datQ (rqP l)).e ≠ 140 ∧ datQ (rqP (l ++ t)) = datQ (rqP l) ∧ (datQ (rqP l)).n ≤ (l.length : Int)) ∨ ((datQ (rqP l)).e = 140 ∧ (datQ (rqP l)).n = 0 ∧ (datQ (rqP l)).m = ⟨#[]⟩ ∧ ((datQ (rqP (l ++ t))).e = 0 → (l.length : Int) < (datQ (rqP (l ++ t))).n)) := by
  cases h : rqP l with
  | error k =>
    have hk := rqP_num h
    by_cases h2 : k = 2
    · subst h2
      refine .inr ⟨hk.1.2 rfl, rfl, rfl, fun he => ?_⟩
      cases hr : rqP (l ++ t) with
      | error k' =>
        rw [hr] at he
        exact absurd he (rqP_num hr).2
      | ok q =>
        obtain ⟨⟨x, b⟩, n⟩ := q
        have := msg_short h hr
        show (l.length : Int) < (n : Int)
        omega
    · refine .inl ⟨fun e => h2 (hk.1.1 e), ?_, ?_⟩
      · rw [show rqP (l ++ t) = .error k from msg_er h h2]
      · show (0 : Int) ≤ _
        omega
  | ok q =>
    obtain ⟨⟨x, b⟩, n⟩ := q
    have h1 := rqP_ok h t
    refine .inl ⟨by show (0 : Int) ≠ 140; decide, by rw [h1.1], ?_⟩
    show (n : Int) ≤ _
    omega
def clN : ByteArray := ⟨#[99, 111, 110, 116, 101, 110, 116, 45, 108, 101, 110, 103, 116, 104]⟩
def teN : ByteArray := ⟨#[116, 114, 97, 110, 115, 102, 101, 114, 45, 101, 110, 99, 111, 100, 105, 110, 103]⟩
theorem kdf_of {nm : ByteArray} (L : List UInt8) (h : lws nm.data.toList = L) : kdf nm = (match kdT.find? (fun p => lws p.1.data.toList == L) with | some p => p.2 | none => 0) := by
  unfold kdf
  have : kdp nm = fun p => lws p.1.data.toList == L := by
    funext p
    unfold kdp
    rw [h]
  rw [this]
  cases kdT.find? (fun p => lws p.1.data.toList == L) <;> rfl
theorem kdf_cl {nm : ByteArray} (h : lws nm.data.toList = lws clN.data.toList) : kdf nm = 4 := by
  rw [kdf_of _ h]
  decide +kernel
theorem kdf_te {nm : ByteArray} (h : lws nm.data.toList = lws teN.data.toList) : kdf nm = 3 := by
  rw [kdf_of _ h]
  decide +kernel
theorem fnd_none {fs : List FD} (h : fs.countP tls = 0) : fnd fs clN = none ∧ fnd fs teN = none := by
  rw [List.countP_eq_zero] at h
  unfold fnd
  rw [List.find?_eq_none, List.find?_eq_none]
  refine ⟨fun f hf e => h f hf ?_, fun f hf e => h f hf ?_⟩
  · unfold tls
    rw [kdf_cl (by simpa using e)]
    rfl
  · unfold tls
    rw [kdf_te (by simpa using e)]
    rfl
/-- more bytes behind a response -/
theorem fixS (l t : List UInt8) :
    ((datS (rsP l)).e = 0 ∧ fnd (datS (rsP l)).fs clN = none ∧ fnd (datS (rsP l)).fs teN = none ∧ (datS (rsP l)).n ≤ (l.length : Int) ∧ ((datS (rsP (l ++ t))).e = 0 → (datS (rsP (l ++ t))).st = (datS (rsP l)).st ∧ (datS (rsP (l ++ t))).fs = (datS (rsP l)).fs)) ∨
    ((datS (rsP l)).e = 140 ∧ (datS (rsP l)).n = 0) ∨
    (((datS (rsP l)).e = 0 → (fnd (datS (rsP l)).fs clN).isSome = true ∨ (fnd (datS (rsP l)).fs teN).isSome = true) ∧ (datS (rsP l)).e ≠ 140 ∧ datS (rsP (l ++ t)) = datS (rsP l) ∧ (datS (rsP l)).n ≤ (l.length : Int)) := by
  cases h : rsP l with
  | error k =>
    have hk := rsP_num h
    by_cases h2 : k = 2
    · subst h2
      exact .inr (.inl ⟨hk.1.2 rfl, rfl⟩)
    · refine .inr (.inr ⟨fun e => absurd e hk.2, fun e => h2 (hk.1.1 e), ?_, ?_⟩)
      · rw [show rsP (l ++ t) = .error k from msg_er h h2]
      · show (0 : Int) ≤ _
        omega
  | ok q =>
    obtain ⟨⟨x, cl, b⟩, n⟩ := q
    obtain ⟨st, fl, k, x', way, len, b', h1, h2, h3, h4, h5, h6, h7, h8, h9⟩ := msg_ok h
    have hx : x = x' := by injection h4
    subst hx
    by_cases hw : way = 1
    · subst hw
      have h10 := (rsg_ok h2).2.2
      unfold rsF at h10
      split at h10
      · injection h10 with e
        injection e with e1 e2
        cases e1
      · have h11 := frm_way h10
        have h12 : x.fs.countP tls = 0 := by omega
        have h13 := fnd_none h12
        refine .inl ⟨rfl, h13.1, h13.2, ?_, fun he => ?_⟩
        · show (n : Int) ≤ _
          omega
        · cases hr : rsP (l ++ t) with
          | error k' =>
            rw [hr] at he
            exact absurd he (rsP_num hr).2
          | ok q =>
            obtain ⟨y, n'⟩ := q
            obtain ⟨b2, hb2⟩ := (h9 t).2 y n' hr
            subst hb2
            exact ⟨rfl, rfl⟩
    · have h10 : rsP (l ++ t) = .ok ((x, cl, b), n) := (h9 t).1 hw
      by_cases hs : (fnd x.fs clN).isSome = true ∨ (fnd x.fs teN).isSome = true
      · refine .inr (.inr ⟨fun _ => hs, by show (0 : Int) ≠ 140; decide, by rw [h10], ?_⟩)
        show (n : Int) ≤ _
        omega
      · have hs1 : fnd x.fs clN = none := by
          cases h13 : fnd x.fs clN with
          | none => rfl
          | some f => exact absurd (.inl (by rw [h13]; rfl)) hs
        have hs2 : fnd x.fs teN = none := by
          cases h13 : fnd x.fs teN with
          | none => rfl
          | some f => exact absurd (.inr (by rw [h13]; rfl)) hs
        refine .inl ⟨rfl, hs1, hs2, ?_, fun _ => ?_⟩
        · show (n : Int) ≤ _
          omega
        · rw [h10]
          exact ⟨rfl, rfl⟩
end Go.Proofs.YtbgjnghjddcooaaGreatDoor
