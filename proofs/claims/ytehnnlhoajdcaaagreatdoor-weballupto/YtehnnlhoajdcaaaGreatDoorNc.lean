import Derived.Test.YtehnnlhoajdcaaaGreatDoorNa
import Derived.Test.YtehnnlhoajdcaaaGreatDoorNb
import Derived.Deep.AppendLies
import Derived.Lib.ConvBytes
import Derived.Test.YtehnnlhoajdcaaaGreatDoorMi
namespace Go.Proofs.YtehnnlhoajdcaaaGreatDoor
open Go.RowKit Go.Shelf TextNum
def rsO (l : List UInt8) : Bool := decide (l.length = 3) && l.all isD
def rsN (l : List UInt8) : Nat := if rsO l = true then nv l else 0
def bd3 (i k : Nat) : Prop := (i = 0 ∧ k = 0) ∨ (i = 1 ∧ k ≤ 9) ∨ (i = 2 ∧ k ≤ 99) ∨ (i = 3 ∧ k ≤ 999)
theorem isD_iff' {c : UInt8} : isD c = true ↔ 48 ≤ c.toNat ∧ c.toNat ≤ 57 := by simp [isD]
theorem wrapu8 (z : Int) (h0 : 0 ≤ z) (h1 : z < 256) : IntKind.u8.wrap z = z := by
 simp only [IntKind.wrap, IntKind.signed, IntKind.bits]
 simp
 omega
set_option maxRecDepth 100000 in
set_option maxHeartbeats 1000000 in
theorem readStatus_walk (s : ByteArray) (w : World) : Calls Tryz.prog 155 #[.string s] w fun e w' => e = .returned (.tuple #[.int .i64 (rsN s.data.toList : Int), .bool (rsO s.data.toList)]) ∧ w' = w := by
 have HS := Ho (Go.Lib.size_eq s)
 obtain ⟨L, hL⟩ := ny s.data.toList
 have HL := Ho hL
 rw [hL] at HS ⊢
 obtain ⟨rn, hrn⟩ := ny (rsN L)
 obtain ⟨ro, hro⟩ := ny (rsO L)
 have HR := Ho (And.intro hrn hro)
 rw [hrn, hro]
 clear hrn hro hL
 by_cases h3 : s.size = 3
 · have h3z : ((s.size : Int) != 3) = false := by rw [h3]; rfl
   have h3s : (s.size : Int) = 3 := by omega
   have HL3 := Ho (show L.length = 3 by rw [← HS.o]; exact h3)
   go_enter Tryz.func155, Tryz.ntmps155
   go_wp2
   go_loop [4, 11] (fun v4 v11 => ∃ i k : Nat, v11 = .int .i64 (i : Int) ∧ v4 = .int .i64 (k : Int) ∧ i ≤ 3 ∧ bd3 i k ∧ Hd ((L.take i).all isD = true ∧ nv (L.take i) = k)) (fun _ v11 => 3 - (intOf v11).toNat)
   case atStart => exact ⟨0, 0, rfl, rfl, by omega, .inl ⟨rfl, rfl⟩, Ho ⟨by simp, by simp [nv, nvf]⟩⟩
   case round =>
    obtain ⟨i, k, rfl, rfl, hi, hb, hI⟩ := hrel
    by_cases hlt : i < 3
    · have hlt' : (i : Int) < 3 := by omega
      have his : i < s.size := by omega
      have ht : L.take (i + 1) = L.take i ++ [s[i]] := by
       have := take_succ0 (l := L) (i := i) (by rw [← HS.o]; exact his)
       rw [this]
       simp only [sget' s i his, HL.o]
      by_cases hd : isD s[i] = true
      · have hd' := isD_iff'.1 hd
        have HN := Ho (show (L.take (i + 1)).all isD = true by rw [ht, List.all_append, hI.o.1]; simp [hd])
        have HV := Ho (show nv (L.take (i + 1)) = 10 * k + (s[i].toNat - 48) by rw [ht, nv_snoc, hI.o.2])
        have HD := Ho (isDigit_walk s[i] w)
        rw [hd] at HD
        have hb2 : bd3 (i + 1) (10 * k + (s[i].toNat - 48)) ∧ k ≤ 99 := by unfold bd3 at hb ⊢; omega
        have hw1 : IntKind.i64.wrap (10 * (k : Int)) = 10 * (k : Int) := wrapk _ (by omega) (by omega)
        have hw2 : IntKind.u8.wrap ((s[i].toNat : Int) - 48) = (s[i].toNat : Int) - 48 := wrapu8 _ (by omega) (by omega)
        have hw3 : IntKind.i64.wrap ((s[i].toNat : Int) - 48) = (s[i].toNat : Int) - 48 := wrapk _ (by omega) (by omega)
        have hw4 : IntKind.i64.wrap (10 * (k : Int) + ((s[i].toNat : Int) - 48)) = 10 * (k : Int) + ((s[i].toNat : Int) - 48) := wrapk _ (by omega) (by omega)
        clear ht hd
        go_wp2_with fail
        refine (HD.o).mono ?_
        rintro e w9 ⟨rfl, h9⟩
        obtain rfl := h9.symm
        clear h9
        dsimp only
        go_wp2
        go_round
        case rel => exact ⟨i + 1, 10 * k + (s[i].toNat - 48), by go_num, by simp only [Value.int.injEq, true_and]; omega, by omega, hb2.1, HN.o, HV.o⟩
        case measure => simp [intOf]; omega
      have hno : L.all isD = false := by
       rw [List.all_eq_false]
       refine ⟨s[i], ?_, hd⟩
       have hli : i < L.length := by rw [← HS.o]; exact his
       have : s[i] = L[i] := by simp only [sget' s i his, HL.o]
       rw [this]
       exact List.getElem_mem hli
      have HE := Ho (show rn = 0 ∧ ro = false by
       have hO : rsO L = false := by unfold rsO; rw [hno, Bool.and_false]
       rw [← HR.o.1, ← HR.o.2]
       unfold rsN
       rw [hO]
       exact ⟨rfl, rfl⟩)
      have hdf : isD s[i] = false := by simpa using hd
      have HD := Ho (isDigit_walk s[i] w)
      rw [hdf] at HD
      clear ht hd hno hdf
      go_wp2_with fail
      refine (HD.o).mono ?_
      rintro e w9 ⟨rfl, h9⟩
      obtain rfl := h9.symm
      clear h9
      dsimp only
      go_wp2
      go_ret2
      rw [HE.o.1, HE.o.2]
      exact ⟨rfl, rfl⟩
    have hlt' : ¬ (i : Int) < 3 := by omega
    have hi3 : i = 3 := by omega
    have HE := Ho (show rn = k ∧ ro = true by
     have h1 := hI.o
     rw [hi3, List.take_of_length_le (by rw [HL3.o]; omega)] at h1
     have hO : rsO L = true := by unfold rsO; rw [HL3.o, h1.1]; rfl
     rw [← HR.o.1, ← HR.o.2]
     unfold rsN
     rw [hO, h1.2]
     exact ⟨rfl, rfl⟩)
    clear hi3
    go_wp2
    go_ret2
    rw [HE.o.1, HE.o.2]
    exact ⟨rfl, rfl⟩
 have h3z : ((s.size : Int) != 3) = true := by simp; omega
 have HE := Ho (show rn = 0 ∧ ro = false by
  have hO : rsO L = false := by unfold rsO; rw [decide_eq_false (by rw [← HS.o]; exact h3)]; rfl
  rw [← HR.o.1, ← HR.o.2]
  unfold rsN
  rw [hO]
  exact ⟨rfl, rfl⟩)
 go_enter Tryz.func155, Tryz.ntmps155
 go_wp2
 go_ret2
 rw [HE.o.1, HE.o.2]
 exact ⟨rfl, rfl⟩
def z5 : List Value := [.int .i64 0, .int .i64 0, .slice none 0 0, .slice none 0 0, .bool false]
def rsl (l : List UInt8) : Er (Nat × Int) :=
 if (rsO (c1 32 (c2 32 l)) && (vok (c1 32 l) && vlu (c2 32 (c2 32 l)))) = false then .error 3
 else match mno ⟨(c1 32 l).toArray⟩ with
  | .error k => .error k
  | .ok n => if sto (rsN (c1 32 (c2 32 l)) : Int) = false then .error 11 else .ok (rsN (c1 32 (c2 32 l)), n)
def slR (ad : Nat → Addr) : Er (Nat × Int) → Value
 | .error k => .tuple #[.agg z5.toArray, ev (ad k)]
 | .ok (s, n) => .tuple #[.agg #[.int .i64 (s : Int), .int .i64 n, .slice none 0 0, .slice none 0 0, .bool false], .nilIface]
theorem rsl_er {l : List UInt8} {k : Nat} (h : rsl l = .error k) : k < 12 := by
 unfold rsl at h
 split at h
 · injection h with h; omega
 split at h
 · rename_i hm
   injection h with h
   have := mno_er hm
   omega
 split at h
 · injection h with h; omega
 cases h
set_option maxRecDepth 100000 in
set_option maxHeartbeats 2000000 in
theorem readStatusLine_walk (ad : Nat → Addr) (s : ByteArray) (hs : s.size ≤ 1048576) (w : World) (h : GE w ad) (hN : GN w) : Calls Tryz.prog 122 #[.string s] w fun e w' => e = .returned (slR ad (rsl s.data.toList)) ∧ Up w w' := by
 have HG := Ho h
 have HNN := Ho hN
 clear h hN
 have HA0 := Ho (at_new w 77 z5)
 have HU0 := Ho ((Up.refl w).alloc (.cells z5.toArray 77))
 obtain ⟨L, hL⟩ := ny s.data.toList
 have hC1 := fun w => Cut_up s (by omega) 32 w
 have hl1 := c_len 32 L
 have hl2 := c_len 32 (c2 32 L)
 have hLs : L.length = s.size := by rw [← hL, ← Go.Lib.size_eq]
 rw [hL] at hC1 ⊢
 clear hL
 obtain ⟨rv, hrv⟩ := ny (slR ad (rsl L))
 have HR := Ho hrv
 rw [hrv]
 clear hrv
 unfold rsl at HR
 obtain ⟨m, hm⟩ := ny (⟨(c1 32 L).toArray⟩ : ByteArray)
 obtain ⟨r, hr⟩ := ny (⟨(c2 32 L).toArray⟩ : ByteArray)
 have hmd : c1 32 L = m.data.toList := by rw [← hm]
 have hrd : c2 32 L = r.data.toList := by rw [← hr]
 have hms : m.size ≤ 1048576 := by rw [Go.Lib.size_eq, ← hmd]; omega
 have hrs : r.size ≤ 1048576 := by rw [Go.Lib.size_eq, ← hrd]; omega
 have hC2 := fun w => Cut_up r (by omega) 32 w
 rw [hmd, vs_data', hrd, vs_data'] at hC1
 rw [hm, hmd, hrd] at HR
 rw [hrd] at hl2
 obtain ⟨t, ht⟩ := ny (⟨(c1 32 r.data.toList).toArray⟩ : ByteArray)
 obtain ⟨v, hv⟩ := ny (⟨(c2 32 r.data.toList).toArray⟩ : ByteArray)
 have htd : c1 32 r.data.toList = t.data.toList := by rw [← ht]
 have hvd : c2 32 r.data.toList = v.data.toList := by rw [← hv]
 have hvs : v.size ≤ 1048576 := by rw [Go.Lib.size_eq, ← hvd]; rw [Go.Lib.size_eq] at hrs; omega
 rw [htd, vs_data', hvd, vs_data'] at hC2
 rw [htd, hvd] at HR
 generalize (Go.Lib.cut L [32]).2.2 = bb1 at *
 generalize (Go.Lib.cut r.data.toList [32]).2.2 = bb2 at *
 have HC1 := Ho hC1
 have HC2 := Ho hC2
 clear hC1 hC2 hm hr ht hv hmd hrd htd hvd hl1 hl2 hLs
 go_enter Tryz.func122, Tryz.ntmps122
 go_wp2_with fail
 change Calls _ _ _ (w.alloc (.cells z5.toArray 77)) _
 generalize w.alloc (.cells z5.toArray 77) = w1 at *
 refine (HC1.o w1).mono ?_
 rintro e w2 ⟨rfl, h9⟩
 have HU2 := Ho (HU0.o.trans h9)
 have HA2 := Ho (HA0.o.up h9)
 clear h9
 dsimp only
 go_wp2_with fail
 refine (HC2.o w2).mono ?_
 rintro e w3 ⟨rfl, h9⟩
 have HU3 := Ho (HU2.o.trans h9)
 have HA3 := Ho (HA2.o.up h9)
 clear h9
 dsimp only
 have HRS := Ho (readStatus_walk t w3)
 obtain ⟨sn, hsn⟩ := ny (rsN t.data.toList)
 rw [hsn] at HRS HR
 clear hsn
 go_wp2_with fail
 refine (HRS.o).mono ?_
 rintro e w9 ⟨rfl, h9⟩
 obtain rfl := h9.symm
 clear h9
 dsimp only
 cases hk : rsO t.data.toList with
 | false =>
  rw [hk] at HR
  have HE := Ho (show rv = slR ad (.error 3) by rw [← HR.o]; rfl)
  clear hk
  go_wp2
  refine wp_region_held_drew (S := fun w2 => (∃ cs, cs.length = 5 ∧ At w2 w.heap.size 77 cs) ∧ GE w2 ad ∧ Up w w2) (by kernel_rfl) ⟨⟨z5, rfl, HA3.o.up (Up.refl _).drew⟩, HG.o.up HU3.o.drew, HU3.o.drew⟩ (fun hS => ?_)
  refine tK 0 (some 43) (.build 77 #[]) 77 (.agg z5.toArray) hS ?_ ?_
  · intro _ _ w5 hSw
    clear hSw hS
    go_simp
    rfl
  simp only [Act.put, pB, pC, pD]
  refine tK 1 (some 44) (.load 106 (.global 3)) 106 (ev (ad 3)) hS ?_ ?_
  · intro _ _ w5 hSw
    have hgl : w5.cell? ⟨3, 0, none⟩ = _ := hSw.2.1.gl 3 (by decide)
    clear hSw hS
    go_simp
  simp only [pA, pB, pC, pD]
  refine rD 2 none (.store 77 (.tmp 2) (.tmp 43)) 0 fun _ _ K hK => oper_of_list ?_
  obtain ⟨⟨cs, hcl, hcs2⟩, hS1, hS2⟩ := hS
  refine wpList_store_at rfl 77 _ _ rfl (w.heap.size) hcs2 z5 rfl rfl hcl.symm (by kernel_rfl) (by kernel_rfl) ?_
  intro w8 hA8 hg8
  have HA8 := Ho hA8
  have HU8 := Ho (hS2.bz hg8)
  clear hA8 hg8 hcs2 hS2 hS1
  refine hK.out _ _ ⟨⟨_, rfl, HA8.o⟩, HG.o.up HU8.o, HU8.o⟩ (fun hS => ?_)
  clear hK K
  refine tN 3 (some 3) (.assign (.tmp 44)) 106 (ev (ad 3)) hS ?_
  simp only [Act.put, pB, pC, pD]
  clear hS
  refine wpAnyH_done (by kernel_rfl) ?_ _
  repeat go_step
  refine bodyPost_ret (result_cell_tmp Tryz.results122 _ _ (w.heap.size) z5 _ rfl rfl HA8.o.range Tryz.underlying77 rfl (by kernel_rfl)) rfl ?_
  rw [HE.o]
  exact ⟨rfl, HU8.o⟩
 | true =>
  rw [hk] at HR
  clear hk
  have HVr := Ho (isVersion_walk m w3)
  cases hv0 : vok m.data.toList with
  | false =>
   rw [hv0] at HR HVr
   have HE := Ho (show rv = slR ad (.error 3) by rw [← HR.o]; rfl)
   clear hv0
   go_wp2_with fail
   refine (HVr.o).mono ?_
   rintro e w9 ⟨rfl, h9⟩
   obtain rfl := h9.symm
   clear h9
   dsimp only
   go_wp2
   refine wp_region_held_drew (S := fun w2 => (∃ cs, cs.length = 5 ∧ At w2 w.heap.size 77 cs) ∧ GE w2 ad ∧ Up w w2) (by kernel_rfl) ⟨⟨z5, rfl, HA3.o.up (Up.refl _).drew⟩, HG.o.up HU3.o.drew, HU3.o.drew⟩ (fun hS => ?_)
   refine tK 0 (some 43) (.build 77 #[]) 77 (.agg z5.toArray) hS ?_ ?_
   · intro _ _ w5 hSw
     clear hSw hS
     go_simp
     rfl
   simp only [pA, pB, pC, pD]
   refine tK 1 (some 44) (.load 106 (.global 3)) 106 (ev (ad 3)) hS ?_ ?_
   · intro _ _ w5 hSw
     have hgl : w5.cell? ⟨3, 0, none⟩ = _ := hSw.2.1.gl 3 (by decide)
     clear hSw hS
     go_simp
   simp only [pA, pB, pC, pD]
   refine rD 2 none (.store 77 (.tmp 2) (.tmp 43)) 0 fun _ _ K hK => oper_of_list ?_
   obtain ⟨⟨cs, hcl, hcs2⟩, hS1, hS2⟩ := hS
   refine wpList_store_at rfl 77 _ _ rfl (w.heap.size) hcs2 z5 rfl rfl hcl.symm (by kernel_rfl) (by kernel_rfl) ?_
   intro w8 hA8 hg8
   have HA8 := Ho hA8
   have HU8 := Ho (hS2.bz hg8)
   clear hA8 hg8 hcs2 hS2 hS1
   refine hK.out _ _ ⟨⟨_, rfl, HA8.o⟩, HG.o.up HU8.o, HU8.o⟩ (fun hS => ?_)
   clear hK K
   refine tN 3 (some 3) (.assign (.tmp 44)) 106 (ev (ad 3)) hS ?_
   simp only [Act.put, pB, pC, pD]
   clear hS
   refine wpAnyH_done (by kernel_rfl) ?_ _
   repeat go_step
   refine bodyPost_ret (result_cell_tmp Tryz.results122 _ _ (w.heap.size) z5 _ rfl rfl HA8.o.range Tryz.underlying77 rfl (by kernel_rfl)) rfl ?_
   rw [HE.o]
   exact ⟨rfl, HU8.o⟩
  | true =>
   rw [hv0] at HR HVr
   clear hv0
   have HVl := Ho (mayBeValue_walk v (by omega) w3)
   go_wp2_with fail
   refine (HVr.o).mono ?_
   rintro e w9 ⟨rfl, h9⟩
   obtain rfl := h9.symm
   clear h9
   dsimp only
   cases hvl : vlu v.data.toList with
   | false =>
    rw [hvl] at HR HVl
    have HE := Ho (show rv = slR ad (.error 3) by rw [← HR.o]; rfl)
    clear hvl
    go_wp2_with fail
    refine (HVl.o).mono ?_
    rintro e w4 ⟨rfl, h9⟩
    have HU4 := Ho (HU3.o.trans h9)
    have HA4 := Ho (HA3.o.up h9)
    clear h9
    dsimp only
    go_wp2
    refine wp_region_held_drew (S := fun w2 => (∃ cs, cs.length = 5 ∧ At w2 w.heap.size 77 cs) ∧ GE w2 ad ∧ Up w w2) (by kernel_rfl) ⟨⟨z5, rfl, HA4.o.up (Up.refl _).drew⟩, HG.o.up HU4.o.drew, HU4.o.drew⟩ (fun hS => ?_)
    refine tK 0 (some 43) (.build 77 #[]) 77 (.agg z5.toArray) hS ?_ ?_
    · intro _ _ w5 hSw
      clear hSw hS
      go_simp
      rfl
    simp only [pA, pB, pC, pD]
    refine tK 1 (some 44) (.load 106 (.global 3)) 106 (ev (ad 3)) hS ?_ ?_
    · intro _ _ w5 hSw
      have hgl : w5.cell? ⟨3, 0, none⟩ = _ := hSw.2.1.gl 3 (by decide)
      clear hSw hS
      go_simp
    simp only [pA, pB, pC, pD]
    refine rD 2 none (.store 77 (.tmp 2) (.tmp 43)) 0 fun _ _ K hK => oper_of_list ?_
    obtain ⟨⟨cs, hcl, hcs2⟩, hS1, hS2⟩ := hS
    refine wpList_store_at rfl 77 _ _ rfl (w.heap.size) hcs2 z5 rfl rfl hcl.symm (by kernel_rfl) (by kernel_rfl) ?_
    intro w8 hA8 hg8
    have HA8 := Ho hA8
    have HU8 := Ho (hS2.bz hg8)
    clear hA8 hg8 hcs2 hS2 hS1
    refine hK.out _ _ ⟨⟨_, rfl, HA8.o⟩, HG.o.up HU8.o, HU8.o⟩ (fun hS => ?_)
    clear hK K
    refine tN 3 (some 3) (.assign (.tmp 44)) 106 (ev (ad 3)) hS ?_
    simp only [Act.put, pB, pC, pD]
    clear hS
    refine wpAnyH_done (by kernel_rfl) ?_ _
    repeat go_step
    refine bodyPost_ret (result_cell_tmp Tryz.results122 _ _ (w.heap.size) z5 _ rfl rfl HA8.o.range Tryz.underlying77 rfl (by kernel_rfl)) rfl ?_
    rw [HE.o]
    exact ⟨rfl, HU8.o⟩
   | true =>
    rw [hvl] at HR HVl
    have HR2 := Ho (show rv = slR ad (match mno m with | .error k => .error k | .ok n => if sto (sn : Int) = false then .error 11 else .ok (sn, n)) by rw [← HR.o]; rfl)
    clear hvl HR
    go_wp2_with fail
    refine (HVl.o).mono ?_
    rintro e w4 ⟨rfl, h9⟩
    have HU4 := Ho (HU3.o.trans h9)
    have HA4 := Ho (HA3.o.up h9)
    clear h9
    dsimp only
    have HMo := Ho (minorOf_walk ad m w4 (HG.o.up HU4.o) (HNN.o.up HU4.o))
    go_wp2_with fail
    refine (HMo.o).mono ?_
    rintro e w5 ⟨rfl, h9⟩
    have HU5 := Ho (HU4.o.trans h9)
    have HA5 := Ho (HA4.o.up h9)
    clear h9
    dsimp only
    cases hmo : mno m with
    | error k =>
     have hk4 := mno_er hmo
     subst hk4
     rw [hmo] at HR2
     have HE := Ho (show rv = slR ad (.error 4) from HR2.o)
     unfold mnR
     dsimp only
     clear hmo
     go_wp2_with (with_reducible refine sS 77 ?_)
     show wpList _ _ _ _ _ _
     refine wpList_store_at rfl 77 _ _ rfl (w.heap.size) HA5.o z5 rfl rfl rfl (by kernel_rfl) (by kernel_rfl) ?_
     intro w8 hA8 hg8
     have HA8 := Ho hA8
     have HU8 := Ho (HU5.o.bz hg8)
     clear hA8 hg8
     simp only [Act.put]
     repeat go_step
     refine bodyPost_ret (result_cell_tmp Tryz.results122 _ _ (w.heap.size) z5 _ rfl rfl HA8.o.range Tryz.underlying77 rfl (by kernel_rfl)) rfl ?_
     rw [HE.o]
     exact ⟨rfl, HU8.o⟩
    | ok mi =>
     rw [hmo] at HR2
     unfold mnR
     dsimp only at HR2 ⊢
     clear hmo
     have HSt := Ho (isStatus_walk (sn : Int) w5)
     cases hst : sto (sn : Int) with
     | false =>
      rw [hst] at HR2 HSt
      have HE := Ho (show rv = slR ad (.error 11) by rw [HR2.o]; rfl)
      clear hst
      go_wp2_with fail
      refine (HSt.o).mono ?_
      rintro e w9 ⟨rfl, h9⟩
      obtain rfl := h9.symm
      clear h9
      dsimp only
      go_wp2
      refine wp_region_held_drew (S := fun w2 => (∃ cs, cs.length = 5 ∧ At w2 w.heap.size 77 cs) ∧ GE w2 ad ∧ Up w w2) (by kernel_rfl) ⟨⟨z5, rfl, HA5.o.up (Up.refl _).drew⟩, HG.o.up HU5.o.drew, HU5.o.drew⟩ (fun hS => ?_)
      refine tK 0 (some 57) (.build 77 #[]) 77 (.agg z5.toArray) hS ?_ ?_
      · intro _ _ w5 hSw
        clear hSw hS
        go_simp
        rfl
      simp only [Act.put, pB, pC, pD]
      refine tK 1 (some 58) (.load 106 (.global 12)) 106 (ev (ad 11)) hS ?_ ?_
      · intro _ _ w5 hSw
        have hgl : w5.cell? ⟨12, 0, none⟩ = _ := hSw.2.1.gl 11 (by decide)
        clear hSw hS
        go_simp
      simp only [pA, pB, pC, pD]
      refine rD 2 none (.store 77 (.tmp 2) (.tmp 57)) 0 fun _ _ K hK => oper_of_list ?_
      obtain ⟨⟨cs, hcl, hcs2⟩, hS1, hS2⟩ := hS
      refine wpList_store_at rfl 77 _ _ rfl (w.heap.size) hcs2 z5 rfl rfl hcl.symm (by kernel_rfl) (by kernel_rfl) ?_
      intro w8 hA8 hg8
      have HA8 := Ho hA8
      have HU8 := Ho (hS2.bz hg8)
      clear hA8 hg8 hcs2 hS2 hS1
      refine hK.out _ _ ⟨⟨_, rfl, HA8.o⟩, HG.o.up HU8.o, HU8.o⟩ (fun hS => ?_)
      clear hK K
      refine tN 3 (some 3) (.assign (.tmp 58)) 106 (ev (ad 11)) hS ?_
      simp only [Act.put, pB, pC, pD]
      clear hS
      refine wpAnyH_done (by kernel_rfl) ?_ _
      repeat go_step
      refine bodyPost_ret (result_cell_tmp Tryz.results122 _ _ (w.heap.size) z5 _ rfl rfl HA8.o.range Tryz.underlying77 rfl (by kernel_rfl)) rfl ?_
      rw [HE.o]
      exact ⟨rfl, HU8.o⟩
     | true =>
      rw [hst] at HR2 HSt
      have HE := Ho (show rv = .tuple #[.agg #[.int .i64 (sn : Int), .int .i64 mi, .slice none 0 0, .slice none 0 0, .bool false], .nilIface] by rw [HR2.o]; rfl)
      clear hst
      go_wp2_with fail
      refine (HSt.o).mono ?_
      rintro e w9 ⟨rfl, h9⟩
      obtain rfl := h9.symm
      clear h9
      dsimp only
      go_wp2_with (with_reducible refine sS 77 ?_)
      show wpList _ _ _ _ _ _
      refine wpList_store_at rfl 77 _ _ rfl (w.heap.size) HA5.o [.int .i64 (sn : Int), .int .i64 mi, .slice none 0 0, .slice none 0 0, .bool false] rfl rfl rfl (by kernel_rfl) (by kernel_rfl) ?_
      intro w8 hA8 hg8
      have HA8 := Ho hA8
      have HU8 := Ho (HU5.o.bz hg8)
      clear hA8 hg8
      simp only [Act.put]
      repeat go_step
      refine bodyPost_ret (result_cell_tmp Tryz.results122 _ _ (w.heap.size) [.int .i64 (sn : Int), .int .i64 mi, .slice none 0 0, .slice none 0 0, .bool false] _ rfl rfl HA8.o.range Tryz.underlying77 rfl (by kernel_rfl)) rfl ?_
      rw [HE.o]
      exact ⟨rfl, HU8.o⟩
def rsF (st : Int) (fs : List FD) (mi : Int) : Er (Int × Nat) := if bdl st = true then .ok (0, 0) else frm fs mi 1
set_option maxRecDepth 100000 in
set_option maxHeartbeats 2000000 in
theorem responseFraming_walk (ad : Nat → Addr) (st mi : Int) (a : Option Addr) (fs : List FD) (c nf : Nat) (vb : Value) (cl : Bool) (hnf : fs.length = nf) (w : World) (h : FdL w a fs c) (hl : fs.length ≤ 1048576) (hs : ∀ f ∈ fs, f.v.size ≤ 1048576) (hE : GE w ad) (hK : w.rangeAt 13 0 kdC) (hP : GP w) :
  Calls Tryz.prog 123 #[.agg #[.int .i64 st, .int .i64 mi, .slice a nf c, vb, .bool cl]] w fun e w' => e = .returned (frR ad (rsF st fs mi)) ∧ Up w w' := by
 have HA0 := Ho (at_new w 77 [.int .i64 st, .int .i64 mi, .slice a nf c, vb, .bool cl])
 have hu0 := (Up.refl w).alloc (.cells [Value.int .i64 st, .int .i64 mi, .slice a nf c, vb, .bool cl].toArray 77)
 have hu1 := hu0.alloc (.cells z2.toArray 185)
 have HZ1 := Ho (at_new (w.alloc (.cells [Value.int .i64 st, .int .i64 mi, .slice a nf c, vb, .bool cl].toArray 77)) 185 z2)
 have HA1 := Ho (HA0.o.up ((Up.refl _).alloc (.cells z2.toArray 185)))
 have HU1 := Ho hu1
 have hbs : (w.alloc (.cells [Value.int .i64 st, .int .i64 mi, .slice a nf c, vb, .bool cl].toArray 77)).heap.size = w.heap.size + 1 := alloc_size _ _
 rw [hbs] at HZ1
 clear hu0 hu1 hbs HA0
 have HFm := Ho (fun (w2 : World) (hu : Up w w2) => framingOf_walk ad a fs c mi 1 w2 (h.up hu) hl hs (hE.up hu) (range_up hK hu) (hP.up hu))
 rw [hnf] at HFm
 have HNf := Ho hnf
 clear h hs hE hK hP hnf hl
 obtain ⟨rv, hrv⟩ := ny (frR ad (rsF st fs mi))
 have HR := Ho hrv
 rw [hrv]
 clear hrv
 unfold rsF at HR
 go_enter Tryz.func123, Tryz.ntmps123
 go_wp2_with (with_reducible refine sF 77 ?_)
 show wpList _ _ _ _ _ _
 obtain ⟨w1, hw1⟩ := ny ((w.alloc (.cells #[.int .i64 st, .int .i64 mi, .slice a nf c, vb, .bool cl] 77)).alloc (.cells z2.toArray 185))
 change wpList _ _ _ _ _ ((w.alloc (.cells #[.int .i64 st, .int .i64 mi, .slice a nf c, vb, .bool cl] 77)).alloc (.cells z2.toArray 185))
 rw [hw1]
 have hA1 : At w1 w.heap.size 77 [.int .i64 st, .int .i64 mi, .slice a nf c, vb, .bool cl] := by rw [← hw1]; exact HA1.o
 have hZ1 : At w1 (w.heap.size + 1) 185 z2 := by rw [← hw1]; exact HZ1.o
 have hU1 : Up w w1 := by rw [← hw1]; exact HU1.o
 clear hw1 HA1 HZ1 HU1
 have HA1 := Ho hA1
 have HZ1 := Ho hZ1
 have HU1 := Ho hU1
 have k0 : w1.cell? ⟨w.heap.size, 0, none⟩ = some (.int .i64 st) := hA1.cell (i := 0) rfl
 clear hA1 hZ1 hU1
 have HBd := Ho (isBodiless_walk st w1)
 cases hb : bdl st with
 | true =>
  rw [hb] at HBd HR
  have HE := Ho (show rv = .tuple #[.agg #[.int .i64 0, .int .i64 0], .nilIface] by rw [← HR.o]; rfl)
  clear hb
  go_wp2_with fail
  refine (HBd.o).mono ?_
  rintro e w9 ⟨rfl, h9⟩
  obtain rfl := h9.symm
  clear h9
  dsimp only
  go_wp2_with (with_reducible refine sS 185 ?_)
  show wpList _ _ _ _ _ _
  refine wpList_store_at rfl 185 _ _ rfl (w.heap.size + 1) HZ1.o [.int .i64 0, .int .i64 0] rfl rfl rfl (by kernel_rfl) (by kernel_rfl) ?_
  intro w8 hA8 hg8
  have HA8 := Ho hA8
  have HU8 := Ho (HU1.o.bz hg8)
  clear hA8 hg8
  simp only [Act.put]
  repeat go_step
  refine bodyPost_ret (result_cell_tmp Tryz.results123 _ _ (w.heap.size + 1) [.int .i64 0, .int .i64 0] _ rfl rfl HA8.o.range Tryz.underlying185 rfl (by kernel_rfl)) rfl ?_
  rw [HE.o]
  exact ⟨rfl, HU8.o⟩
 | false =>
  rw [hb] at HBd HR
  have HR3 := Ho (show rv = frR ad (frm fs mi 1) by rw [← HR.o]; rfl)
  clear hb HR
  have k2 : w1.cell? ⟨w.heap.size, 2, none⟩ = some (.slice a nf c) := HA1.o.cell (i := 2) rfl
  have k1 : w1.cell? ⟨w.heap.size, 1, none⟩ = some (.int .i64 mi) := HA1.o.cell (i := 1) rfl
  have HFB := Ho (HFm.o w1 HU1.o)
  rw [← HR3.o] at HFB
  obtain ⟨cs, vr, hcs, hcl, hc1⟩ : ∃ (cs : List Value) (vr : Value), rv = .tuple #[.agg cs.toArray, vr] ∧ cs.length = 2 ∧ cs.toArray.all (·.oneCell') = true := by
   rw [HR3.o]
   unfold frR
   split
   · exact ⟨z2, _, rfl, rfl, by kernel_rfl⟩
   exact ⟨[_, _], _, rfl, rfl, by kernel_rfl⟩
  rw [hcs] at HFB
  have HE := Ho hcs
  clear hcs HR3
  go_wp2_with fail
  refine (HBd.o).mono ?_
  rintro e w9 ⟨rfl, h9⟩
  obtain rfl := h9.symm
  clear h9
  dsimp only
  go_wp2_with fail
  refine HFB.o.mono ?_
  rintro e w6 ⟨rfl, h9⟩
  have HU6 := Ho (HU1.o.trans h9)
  have HZ6 := Ho (HZ1.o.up h9)
  clear h9
  dsimp only
  go_wp2_with (with_reducible refine sS 185 ?_)
  show wpList _ _ _ _ _ _
  refine wpList_store_at rfl 185 _ _ rfl (w.heap.size + 1) HZ6.o cs rfl rfl hcl (by rw [List.size_toArray, hcl]; kernel_rfl) hc1 ?_
  intro w8 hA8 hg8
  have HA8 := Ho hA8
  have HU8 := Ho (HU6.o.bz hg8)
  clear hA8 hg8
  simp only [Act.put]
  repeat go_step
  refine bodyPost_ret (result_cell_tmp Tryz.results123 _ _ (w.heap.size + 1) cs _ rfl rfl HA8.o.range Tryz.underlying185 rfl (by rw [hcl]; kernel_rfl)) rfl ?_
  rw [HE.o]
  exact ⟨rfl, HU8.o⟩
theorem exec_load5 {o : Oper} {ρ : Operand → Value} {x : Operand} {w : World} {b : Nat} {cs : List Value} (ho : o.op = .load 77 x) (hx : ρ x = .pointer (some ⟨b, 0, none⟩)) (h : w.rangeAt b 0 cs) (hl : (Tryz.prog.info? 77).map (·.size) = some cs.length := by kernel_rfl) : (execOp ρ o).run Tryz.prog w = .ok (.value (.agg cs.toArray)) w := by
 unfold execOp
 simp only [ho, hx]
 have := run_loadAt_mid (P := Tryz.prog) w b 0 77 cs _ h Tryz.underlying77 rfl hl
 simp [this]
structure Rs where
 st : Nat
 mi : Int
 fs : List FD
def rsg (st fl : List UInt8) : Er (Rs × Int × Nat) := match rsl st with
 | .error e => .error e
 | .ok (s, mi) => match rdf fl with
   | .error e => .error e
   | .ok fs => match rsF (s : Int) fs mi with
     | .error e => .error e
     | .ok (way, len) => .ok (⟨s, mi, fs⟩, way, len)
def rsP (l : List UInt8) : Er ((Rs × Bool × List UInt8) × Nat) := msg 3 rsg (fun x way b => (x, (way == 1) || cls (x.mi == 0) x.fs, b)) l
def rsV (x : Rs) (cl : Bool) (a : Option Addr) (c : Nat) (v : Value) : Value := .agg #[.int .i64 (x.st : Int), .int .i64 x.mi, .slice a x.fs.length c, v, .bool cl]
theorem rsV_eq {s : Nat} {mi : Int} {fs : List FD} {a : Option Addr} {c nf : Nat} {v : Value} {cl cl' : Bool} (h1 : fs.length = nf) (h2 : cl' = cl) : rsV ⟨s, mi, fs⟩ cl' a c v = .agg #[.int .i64 (s : Int), .int .i64 mi, .slice a nf c, v, .bool cl] := by
 unfold rsV
 dsimp only
 rw [h1, h2]
def RsR (ad : Nat → Addr) (w w' : World) (e : Ending) : Er ((Rs × Bool × List UInt8) × Nat) → Prop
 | .error k => e = .returned (.tuple #[.agg z5.toArray, .int .i64 0, erV ad k])
 | .ok ((x, cl, b), n) => ∃ a c v, e = .returned (.tuple #[rsV x cl a c v, .int .i64 (n : Int), .nilIface]) ∧ Hd (FdO w' w.heap.size a x.fs c ∧ Ow w' w.heap.size v b)
theorem RsR_ev {ad : Nat → Addr} {w w' : World} {k : Nat} (h : k < 12) : RsR ad w w' (.returned (.tuple #[.agg z5.toArray, .int .i64 0, ev (ad k)])) (.error k) := by
 show Ending.returned _ = Ending.returned _
 unfold erV
 rw [if_pos h]
theorem rsF_er {s : Int} {fs : List FD} {mi : Int} {k : Nat} (h : rsF s fs mi = .error k) : k < 12 := by
 unfold rsF at h
 split at h
 · cases h
 have := frm_er h
 omega
theorem rsF_len {s : Int} {fs : List FD} {mi way : Int} {n : Nat} (h : rsF s fs mi = .ok (way, n)) : n ≤ 1048576 := by
 unfold rsF at h
 split at h
 · injection h with h; injection h with e1 e2; omega
 exact frm_len h
set_option maxRecDepth 100000 in
set_option maxHeartbeats 4000000 in
theorem readResponse_walk (ad : Nat → Addr) {a : Option Addr} {n c : Nat} {ds : List UInt8} (hn40 : n ≤ 1099511627776) (w : World) (hS : Sb w (.slice a n c) ds) (hW : GW w ad) : Calls Tryz.prog 82 #[.slice a n c] w fun e w' => RsR ad w w' e (rsP ds) ∧ Up w w' := by
 have HW := Ho hW
 clear hW
 obtain ⟨hn, hnc, hcm⟩ := hS.len
 unfold maxLen at hcm
 have HN := Ho hn
 have HSb := Ho hS
 clear hn hS
 have HA0 := Ho (at_new w 77 z5)
 have HU0 := Ho ((Up.refl w).alloc (.cells z5.toArray 77))
 obtain ⟨rv, hrv⟩ := ny (rsP ds)
 have HR := Ho hrv
 rw [hrv]
 clear hrv
 unfold rsP msg at HR
 go_enter Tryz.func82, Tryz.ntmps82
 go_wp2_with (with_reducible refine sL 106 ?_)
 show wpList _ _ _ _ _ _
 obtain ⟨w1, hw1⟩ := ny (w.alloc (.cells z5.toArray 77))
 rw [hw1] at HA0 HU0
 change wpList _ _ _ _ _ (w.alloc (.cells z5.toArray 77))
 rw [hw1]
 clear hw1
 have hgl : w1.cell? ⟨3, 0, none⟩ = some (ev (ad 3)) := (HW.o.ge.up HU0.o).gl 3 (by decide)
 go_wp2_with fail
 refine (cutHead_walk ad 3 hn40 w1 (HSb.o.up HU0.o) (HW.o.ge.up HU0.o)).mono ?_
 rintro e w2 ⟨rfl, h9⟩
 have HU2 := Ho (HU0.o.trans h9)
 have HA2 := Ho (HA0.o.up h9)
 clear h9 hgl
 cases hc : cHd 3 ds with
 | error k =>
  rw [hc] at HR
  have HE := Ho (show rv = .error k from HR.o.symm)
  have hne := er_neq ad k
  have hge := er_grd ad k
  unfold hR z3
  dsimp only
  go_wp2_with (with_reducible show wpList _ _ _ (⟨_, .store 77 (.tmp 2) _, _, _, _, _⟩ :: _) _ _; refine Shut.out ?_)
  show wpList _ _ _ _ _ _
  refine wpList_store_at rfl 77 _ _ rfl (w.heap.size) (HA2.o.up ((Up.refl w2).alloc _)) z5 rfl rfl rfl (by kernel_rfl) (by kernel_rfl) ?_
  intro w8 hA8 hg8
  have HA8 := Ho hA8
  have HU8 := Ho ((HU2.o.alloc _).bz hg8)
  clear hA8 hg8
  simp only [Act.put]
  repeat go_step
  refine bodyPost_ret (result_cell_tmp2 Tryz.results82 _ _ (w.heap.size) z5 _ _ rfl rfl rfl HA8.o.range Tryz.underlying77 rfl (by kernel_rfl)) rfl ?_
  rw [HE.o]
  exact ⟨rfl, HU8.o⟩
 | ok q =>
  obtain ⟨st, fl, k⟩ := q
  rw [hc] at HR
  have hck := cHd_ok hc
  have hkn : k ≤ n := by rw [HN.o]; exact hck.2.1
  have hst : st.length ≤ 8000 := hck.2.2.1
  have hfll : fl.length ≤ 16384 := hck.2.2.2.1
  unfold hR
  dsimp only at HR ⊢
  clear hck hc
  go_wp2_with fail
  obtain ⟨w3, hw3⟩ := ny (w2.alloc (.cells #[vs st, vs fl, .int .i64 (k : Int)] 177))
  have HH3 := Ho (show At w3 w2.heap.size 177 [vs st, vs fl, .int .i64 (k : Int)] by rw [← hw3]; exact at_new w2 177 [vs st, vs fl, .int .i64 (k : Int)])
  have hu3 : Up w2 w3 := by rw [← hw3]; exact (Up.refl w2).alloc _
  have HU3 := Ho (HU2.o.trans hu3)
  have HA3 := Ho (HA2.o.up hu3)
  change Calls _ _ _ (w2.alloc (.cells #[vs st, vs fl, .int .i64 (k : Int)] 177)) _
  rw [hw3]
  clear hw3 hu3
  refine (readStatusLine_walk ad ⟨st.toArray⟩ (by rw [str_len]; omega) w3 (HW.o.up HU3.o).ge (HW.o.up HU3.o).gn).mono ?_
  rintro e w4 ⟨rfl, h9⟩
  have HU4 := Ho (HU3.o.trans h9)
  have HA4 := Ho (HA3.o.up h9)
  have HH4 := Ho (HH3.o.up h9)
  clear h9 HH3
  unfold rsg at HR
  cases hl : rsl st with
  | error e1 =>
   rw [hl] at HR
   have HE := Ho (show rv = .error e1 from HR.o.symm)
   have HK := Ho (rsl_er hl)
   unfold slR z5
   dsimp only
   go_wp2_with (with_reducible show wpList _ _ _ (⟨_, .store 77 (.tmp 2) _, _, _, _, _⟩ :: _) _ _; refine Shut.out ?_)
   show wpList _ _ _ _ _ _
   refine wpList_store_at rfl 77 _ _ rfl (w.heap.size) (HA4.o.up ((Up.refl w4).alloc _)) z5 rfl rfl rfl (by kernel_rfl) (by kernel_rfl) ?_
   intro w8 hA8 hg8
   have HA8 := Ho hA8
   have HU8 := Ho ((HU4.o.alloc _).bz hg8)
   clear hA8 hg8
   simp only [Act.put]
   repeat go_step
   refine bodyPost_ret (result_cell_tmp2 Tryz.results82 _ _ (w.heap.size) z5 _ _ rfl rfl rfl HA8.o.range Tryz.underlying77 rfl (by kernel_rfl)) rfl ?_
   rw [HE.o]
   exact ⟨RsR_ev HK.o, HU8.o⟩
  | ok q1 =>
   obtain ⟨st0, mi⟩ := q1
   rw [hl] at HR
   unfold slR
   dsimp only at HR ⊢
   clear hl
   have HUw4 := Ho HU4.o
   have HUw4s := Ho (show w.heap.size < w4.heap.size from lt_of_at HA4.o)
   have h1 : (w4.alloc (.cells #[.int .i64 (st0 : Int), .int .i64 mi, .slice none 0 0, .slice none 0 0, .bool false] 77)).cell? ⟨w2.heap.size, 1, none⟩ = some (vs fl) := (HH4.o.up ((Up.refl w4).alloc _)).cell (i := 1) rfl
   go_wp2_with fail
   obtain ⟨w5, hw5⟩ := ny (w4.alloc (.cells #[.int .i64 (st0 : Int), .int .i64 mi, .slice none 0 0, .slice none 0 0, .bool false] 77))
   have HR5 := Ho (show At w5 w4.heap.size 77 [.int .i64 (st0 : Int), .int .i64 mi, .slice none 0 0, .slice none 0 0, .bool false] by rw [← hw5]; exact at_new w4 77 [.int .i64 (st0 : Int), .int .i64 mi, .slice none 0 0, .slice none 0 0, .bool false])
   have hu5 : Up w4 w5 := by rw [← hw5]; exact (Up.refl w4).alloc _
   have HU5 := Ho (HU4.o.trans hu5)
   have HA5 := Ho (HA4.o.up hu5)
   have HH5 := Ho (HH4.o.up hu5)
   change Calls _ _ _ (w4.alloc (.cells #[.int .i64 (st0 : Int), .int .i64 mi, .slice none 0 0, .slice none 0 0, .bool false] 77)) _
   rw [hw5]
   clear hw5 hu5 h1
   refine (readFields_walk ad ⟨fl.toArray⟩ (by rw [str_len]; exact hfll) w5 (HW.o.up HU5.o).ge).mono ?_
   rintro e w6 ⟨hRd, h9⟩
   have HU6 := Ho (HU5.o.trans h9)
   have HA6 := Ho (HA5.o.up h9)
   have HH6 := Ho (HH5.o.up h9)
   have HR6 := Ho (HR5.o.up h9)
   clear h9
   have q3 : w6.cell? ⟨w4.heap.size, 2, none⟩ = some (.slice none 0 0) := HR6.o.cell (i := 2) rfl
   have p3 := HR6.o.thaw 2
   have hrne : w4.heap.size ≠ w.heap.size := by have := HUw4s.o; omega
   cases hd : rdf fl with
   | error e2 =>
    rw [hd] at HR
    have HE := Ho (show rv = .error e2 from HR.o.symm)
    have HK := Ho (rdf_er hd)
    rw [show (⟨fl.toArray⟩ : ByteArray).data.toList = fl from rfl, hd] at hRd
    obtain rfl : e = _ := hRd
    dsimp only
    have HG3 := Ho (grown_at w6 w4.heap.size 2 (.slice none 0 0))
    go_wp2_with (with_reducible show wpList _ _ _ (⟨_, .store 77 (.tmp 2) _, _, _, _, _⟩ :: _) _ _; refine Shut.out ?_)
    show wpList _ _ _ _ _ _
    refine wpList_store_at rfl 77 _ _ rfl (w.heap.size) (HA6.o.by HG3.o (fun e => hrne (Option.some.inj e))) z5 rfl rfl rfl (by kernel_rfl) (by kernel_rfl) ?_
    intro w8 hA8 hg8
    have HA8 := Ho hA8
    have HU8 := Ho ((HU6.o.by HG3.o (fun g hg => by have := Option.some.inj hg; have := HUw4.o.size; omega)).bz hg8)
    clear hA8 hg8
    simp only [Act.put]
    repeat go_step
    refine bodyPost_ret (result_cell_tmp2 Tryz.results82 _ _ (w.heap.size) z5 _ _ rfl rfl rfl HA8.o.range Tryz.underlying77 rfl (by kernel_rfl)) rfl ?_
    rw [HE.o]
    exact ⟨RsR_ev HK.o, HU8.o⟩
   | ok fs =>
    rw [hd] at HR
    rw [show (⟨fl.toArray⟩ : ByteArray).data.toList = fl from rfl, hd] at hRd
    obtain ⟨af, cf, rfl, hFO⟩ := hRd
    have hsm := rdf_small hd
    have hfl2 : fs.length ≤ 1048576 := by omega
    have HSm := Ho (show ∀ f ∈ fs, f.v.size ≤ 1048576 from fun f hf => by have := (hsm.2 f hf).2; omega)
    clear hsm hd
    dsimp only at HR ⊢
    have HFO6 := Ho (ow_base hFO.o HU5.o.size)
    clear hFO
    obtain ⟨nf, hnf⟩ := ny fs.length
    have HNf := Ho hnf
    rw [hnf] at HFO6 ⊢
    clear hnf
    have HG3 := Ho (grown_at w6 w4.heap.size 2 (.slice af nf cf))
    have HR7 := Ho (HR6.o.set 2 (.slice af nf cf))
    dsimp only [List.set_cons_zero, List.set_cons_succ] at HR7
    have HA7 := Ho (HA6.o.by HG3.o (fun e => hrne (Option.some.inj e)))
    have hhne := HH6.o.ne HR6.o (by decide)
    have HH7 := Ho (HH6.o.by HG3.o (fun e => hhne (Option.some.inj e).symm))
    have HU7 := Ho (HU6.o.by HG3.o (fun g hg => by have := Option.some.inj hg; have := HUw4.o.size; omega))
    have HFO7 := Ho (HFO6.o.kept HG3.o (.inr (own_ne HFO6.o HR6.o (by decide))))
    clear HG3 hhne HR6 HA6 HH6 HFO6
    go_wp2_with (with_reducible refine sL 77 ?_)
    show wpList _ _ _ _ _ _
    change wpList _ _ _ _ _ (w6.setCell ⟨w4.heap.size, 2, none⟩ (.slice af nf cf))
    obtain ⟨w7, hw7⟩ := ny (w6.setCell ⟨w4.heap.size, 2, none⟩ (.slice af nf cf))
    rw [hw7] at HR7 HA7 HH7 HU7 HFO7 ⊢
    clear hw7 q3 p3
    refine wpList_load_mid rfl _ _ rfl w4.heap.size 0 rfl _ _ HR7.o.range Tryz.underlying77 rfl (by kernel_rfl) ?_
    simp only [Act.put, pB, pC, pD]
    have HFd := Ho (show FdL w7 af fs cf by have h := HFO7.o; rw [← HNf.o] at h; exact FdO.fdl h)
    have HFm := Ho (responseFraming_walk ad (st0 : Int) mi af fs cf nf (.slice none 0 0) false HNf.o w7 HFd.o hfl2 HSm.o (HW.o.up HU7.o).ge (HW.o.up HU7.o).kd (HW.o.up HU7.o).gp)
    go_wp2_with fail
    refine HFm.o.mono ?_
    rintro e w9 ⟨rfl, h9⟩
    have HU9 := Ho (HU7.o.trans h9)
    have HA9 := Ho (HA7.o.up h9)
    have HH9 := Ho (HH7.o.up h9)
    have HR9 := Ho (HR7.o.up h9)
    have HFO9 := Ho (ow_up HFO7.o h9)
    have HFd9 := Ho (HFd.o.up h9)
    clear h9 HFm
    cases hf0 : rsF (st0 : Int) fs mi with
    | error e4 =>
     rw [hf0] at HR
     have HE := Ho (show rv = .error e4 from HR.o.symm)
     have HK := Ho (rsF_er hf0)
     unfold frR z2
     dsimp only
     go_wp2_with (with_reducible show wpList _ _ _ (⟨_, .store 77 (.tmp 2) _, _, _, _, _⟩ :: _) _ _; refine Shut.out ?_)
     show wpList _ _ _ _ _ _
     refine wpList_store_at rfl 77 _ _ rfl (w.heap.size) (HA9.o.up ((Up.refl w9).alloc _)) z5 rfl rfl rfl (by kernel_rfl) (by kernel_rfl) ?_
     intro w8 hA8 hg8
     have HA8 := Ho hA8
     have HU8 := Ho ((HU9.o.alloc _).bz hg8)
     clear hA8 hg8
     simp only [Act.put]
     repeat go_step
     refine bodyPost_ret (result_cell_tmp2 Tryz.results82 _ _ (w.heap.size) z5 _ _ rfl rfl rfl HA8.o.range Tryz.underlying77 rfl (by kernel_rfl)) rfl ?_
     rw [HE.o]
     exact ⟨RsR_ev HK.o, HU8.o⟩
    | ok q4 =>
     obtain ⟨way, len⟩ := q4
     rw [hf0] at HR
     have hlen := rsF_len hf0
     unfold frR
     dsimp only at HR ⊢
     clear hf0
     go_wp2
     obtain ⟨wA, hwA⟩ := ny (w9.alloc (.cells #[.int .i64 way, .int .i64 (len : Int)] 185))
     have HFA := Ho (show At wA w9.heap.size 185 [.int .i64 way, .int .i64 (len : Int)] by rw [← hwA]; exact at_new w9 185 [.int .i64 way, .int .i64 (len : Int)])
     have huA : Up w9 wA := by rw [← hwA]; exact (Up.refl w9).alloc _
     have HUA := Ho (HU9.o.trans huA)
     have HAA := Ho (HA9.o.up huA)
     have HHA := Ho (HH9.o.up huA)
     have HRA := Ho (HR9.o.up huA)
     have HFO := Ho (ow_up HFO9.o huA)
     have HFA2 := Ho (HFd9.o.up huA)
     change Code.wp _ _ _ _ (w9.alloc (.cells #[.int .i64 way, .int .i64 (len : Int)] 185))
     rw [hwA]
     clear hwA huA HU9 HA9 HH9 HR9 HFO9 HFd9
     have hSk := HSb.o.sub k n hkn (by rw [← HN.o]; exact Nat.le_refl _)
     rw [show (ds.take n).drop k = ds.drop k by rw [HN.o, List.take_length]] at hSk
     have HCt := Ho (fun (w2 : World) (hu : Up wA w2) => cut_walk ad way len (by omega) (by omega) w2 (hSk.up (HUA.o.trans hu)) (HW.o.up (HUA.o.trans hu)).ge)
     clear hSk
     have HRes := Ho (show ∀ r : Er ((Rs × Bool × List UInt8) × Nat), (match fcu way len (ds.drop k) with | .error e => .error e | .ok (b, n) => .ok ((⟨st0, mi, fs⟩, (way == 1) || cls (mi == 0) fs, b), k + n)) = r → rv = r from fun r hr => by
      rw [← HR.o, ← hr]
      cases fcu way len (ds.drop k) <;> rfl)
     clear HR
     refine wp_region_held_drew (S := fun w2 => Up wA w2) (by kernel_rfl) (Up.refl wA).drew (fun hS => ?_)
     refine tK 0 (some 52) (.load 185 (.tmp 8)) 185 (.agg #[.int .i64 way, .int .i64 (len : Int)]) hS ?_ ?_
     · intro _ _ w5 hSw
       have hf0 : w5.cell? ⟨w9.heap.size, 0, none⟩ = some (.int .i64 way) := hSw.cell (HFA.o.cell (i := 0) rfl)
       have hf1 : w5.cell? ⟨w9.heap.size, 1, none⟩ = some (.int .i64 (len : Int)) := hSw.cell (HFA.o.cell (i := 1) rfl)
       clear hSw hS
       go_simp
     simp only [Act.put, pB, pC, pD]
     refine tN 1 (some 53) (.move (.tmp 0)) 22 (.slice a n c) hS ?_
     simp only [pA, pB, pC, pD]
     refine tN 2 (some 54) (.fieldAddr 177 (.tmp 5) 2) 0 (.pointer (some ⟨w2.heap.size, 2, none⟩)) hS ?_
     simp only [pA, pB, pC, pD]
     refine tK 3 (some 55) (.load 3 (.tmp 54)) 3 (.int .i64 (k : Int)) hS ?_ ?_
     · intro _ _ w5 hSw
       have hh2 : w5.cell? ⟨w2.heap.size, 2, none⟩ = some (.int .i64 (k : Int)) := hSw.cell (HHA.o.cell (i := 2) rfl)
       clear hSw hS
       go_simp
     simp only [pA, pB, pC, pD]
     refine tK 4 (some 56) (.slice 22 (.tmp 53) (some (.tmp 55)) none none) 22 (.slice (sv a c k) (n - k) (c - k)) hS ?_ ?_
     · intro _ _ w5 hSw
       clear hSw hS
       exact exec_sublo (by omega) rfl rfl rfl
     simp only [pA, pB, pC, pD]
     refine rD 5 (some 57) (.call ⟨.value (.func 119), #[.tmp 52, .tmp 56], #[185, 22]⟩) 147 fun _ _ K hK => ?_
     rw [if_pos (by kernel_rfl)]
     go_simp
     refine (HCt.o _ hS).mono ?_
     rintro e wB ⟨hUn, u5⟩
     have HSB := Ho (hS.trans u5)
     have HSs := Ho hS
     clear u5 hS
     cases hf : fcu way len (ds.drop k) with
     | error e9 =>
      rw [hf] at hUn
      obtain rfl : e = _ := hUn
      dsimp only
      refine hK.out _ _ HSB.o (fun hS => ?_)
      clear hK K
      refine tN 6 (some 51) (.move (.tmp 57)) 147 (.tuple #[.slice none 0 0, .int .i64 0, erV ad e9]) hS ?_
      simp only [Act.put, pB, pC, pD]
      refine tN 7 (some 58) (.extract (.tmp 51) 0) 22 (.slice none 0 0) hS ?_
      simp only [pA, pB, pC, pD]
      refine tN 8 (some 59) (.extract (.tmp 51) 1) 3 (.int .i64 0) hS ?_
      simp only [pA, pB, pC, pD]
      refine tN 9 (some 60) (.extract (.tmp 51) 2) 106 (erV ad e9) hS ?_
      simp only [pA, pB, pC, pD]
      refine tN 10 (some 9) (.assign (.tmp 58)) 22 (.slice none 0 0) hS ?_
      simp only [pA, pB, pC, pD]
      refine tN 11 (some 10) (.assign (.tmp 59)) 3 (.int .i64 0) hS ?_
      simp only [pA, pB, pC, pD]
      refine tN 12 (some 6) (.assign (.tmp 60)) 106 (erV ad e9) hS ?_
      simp only [pA, pB, pC, pD]
      clear hS
      refine wpAnyH_done (by kernel_rfl) ?_ _
      have hne := er_neq ad e9
      have hge := er_grd ad e9
      have HE := Ho (HRes.o (.error e9) (by rw [hf]))
      go_wp2_with (with_reducible show wpList _ _ _ (⟨_, .store 77 (.tmp 2) _, _, _, _, _⟩ :: _) _ _; refine Shut.out ?_)
      show wpList _ _ _ _ _ _
      refine wpList_store_at rfl 77 _ _ rfl (w.heap.size) (HAA.o.up HSB.o) z5 rfl rfl rfl (by kernel_rfl) (by kernel_rfl) ?_
      intro w8 hA8 hg8
      have HA8 := Ho hA8
      have HU8 := Ho ((HUA.o.trans HSB.o).bz hg8)
      clear hA8 hg8
      simp only [Act.put]
      repeat go_step
      refine bodyPost_ret (result_cell_tmp2 Tryz.results82 _ _ (w.heap.size) z5 _ _ rfl rfl rfl HA8.o.range Tryz.underlying77 rfl (by kernel_rfl)) rfl ?_
      rw [HE.o]
      exact ⟨rfl, HU8.o⟩
     | ok q9 =>
      obtain ⟨bo, nb⟩ := q9
      rw [hf] at hUn
      obtain ⟨vB, rfl, hoB⟩ := hUn
      have HOB := Ho (ow_base hoB.o (Nat.le_trans HUA.o.size HSs.o.size))
      clear hoB
      dsimp only
      refine hK.out _ _ HSB.o (fun hS => ?_)
      clear hK K
      refine tN 6 (some 51) (.move (.tmp 57)) 147 (.tuple #[vB, .int .i64 (nb : Int), .nilIface]) hS ?_
      simp only [Act.put, pB, pC, pD]
      refine tN 7 (some 58) (.extract (.tmp 51) 0) 22 vB hS ?_
      simp only [pA, pB, pC, pD]
      refine tN 8 (some 59) (.extract (.tmp 51) 1) 3 (.int .i64 (nb : Int)) hS ?_
      simp only [pA, pB, pC, pD]
      refine tN 9 (some 60) (.extract (.tmp 51) 2) 106 .nilIface hS ?_
      simp only [pA, pB, pC, pD]
      refine tN 10 (some 9) (.assign (.tmp 58)) 22 vB hS ?_
      simp only [pA, pB, pC, pD]
      refine tN 11 (some 10) (.assign (.tmp 59)) 3 (.int .i64 (nb : Int)) hS ?_
      simp only [pA, pB, pC, pD]
      refine tN 12 (some 6) (.assign (.tmp 60)) 106 .nilIface hS ?_
      simp only [pA, pB, pC, pD]
      clear hS
      refine wpAnyH_done (by kernel_rfl) ?_ _
      have hfl := fcu_len hf
      rw [List.length_drop, ← HN.o] at hfl
      have hnb : nb ≤ n - k := hfl.1
      clear hfl
      have HE := Ho (HRes.o (.ok ((⟨st0, mi, fs⟩, (way == 1) || cls (mi == 0) fs, bo), k + nb)) (by rw [hf]))
      clear hf
      have HRB := Ho (HRA.o.up HSB.o)
      have HUB := Ho (HUA.o.trans HSB.o)
      have HFB := Ho (show FdL wB af fs cf by have h := HFA2.o.up HSB.o; exact h)
      obtain ⟨aB, nB, cB, rfl⟩ := Sb.shape (Ow.sb HOB.o)
      have k3 : wB.cell? ⟨w4.heap.size, 3, none⟩ = some (.slice none 0 0) := HRB.o.cell (i := 3) rfl
      have f3 := HRB.o.thaw 3
      have HG4 := Ho (grown_at wB w4.heap.size 3 (.slice aB nB cB))
      have HRD := Ho (HRB.o.set 3 (.slice aB nB cB))
      dsimp only [List.set_cons_zero, List.set_cons_succ] at HRD
      have HUD := Ho (HUB.o.by HG4.o (fun g hg => by have := Option.some.inj hg; have := HUw4.o.size; omega))
      have hrne : w4.heap.size ≠ w.heap.size := by have := HUw4s.o; omega
      have HAD := Ho ((HAA.o.up HSB.o).by HG4.o (fun e => hrne (Option.some.inj e)))
      have hhne := (HHA.o.up HSB.o).ne HRB.o (by decide)
      have HHD := Ho ((HHA.o.up HSB.o).by HG4.o (fun e => hhne (Option.some.inj e).symm))
      have hmne := (HFA.o.up HSB.o).ne HRB.o (by decide)
      have HMD := Ho ((HFA.o.up HSB.o).by HG4.o (fun e => hmne (Option.some.inj e).symm))
      have HFD := Ho ((ow_up HFO.o HSB.o).kept HG4.o (.inr (own_ne (ow_up HFO.o HSB.o) HRB.o (by decide))))
      have HOD := Ho (HOB.o.kept HG4.o (.inr (own_ne HOB.o HRB.o (by decide))))
      have HFL := Ho (show FdL (wB.setCell ⟨w4.heap.size, 3, none⟩ (.slice aB nB cB)) af fs cf by have h := HFD.o; rw [← HNf.o] at h; exact FdO.fdl h)
      clear hrne hhne hmne HG4
      have hf0 : (wB.setCell ⟨w4.heap.size, 3, none⟩ (.slice aB nB cB)).cell? ⟨w9.heap.size, 0, none⟩ = some (.int .i64 way) := HMD.o.cell (i := 0) rfl
      cases hw : (way == 1)
      case' true =>
       have HCv := Ho (show ((way == 1) || cls (mi == 0) fs) = true by rw [hw]; rfl)
       go_wp2_with (with_reducible refine sS 4 ?_)
       show wpList _ _ _ _ _ _
       change wpList _ _ _ _ _ (wB.setCell ⟨w4.heap.size, 3, none⟩ (.slice aB nB cB))
       generalize wB.setCell ⟨w4.heap.size, 3, none⟩ (.slice aB nB cB) = wD at *
       clear hw
       have HRC := Ho HRD.o
       have HUC := Ho HUD.o
       have HAC := Ho HAD.o
       have HHC := Ho HHD.o
       have HFC := Ho HFD.o
       have HOC := Ho HOD.o
       have f0 : wD.cell? ⟨w9.heap.size, 0, none⟩ = some (.int .i64 way) := HMD.o.cell (i := 0) rfl
       have k4 : wD.cell? ⟨w4.heap.size, 4, none⟩ = some (.bool false) := HRC.o.cell (i := 4) rfl
       have f4 := HRC.o.thaw 4
       go_wp2
       have HG5 := Ho (grown_at wD w4.heap.size 4 (.bool true))
       have HRE := Ho (HRC.o.set 4 (.bool true))
       have HUE := Ho (HUC.o.by HG5.o (fun g hg => by have := Option.some.inj hg; have := HUw4.o.size; omega))
       have hrne : w4.heap.size ≠ w.heap.size := by have := HUw4s.o; omega
       have HAE := Ho (HAC.o.by HG5.o (fun e => hrne (Option.some.inj e)))
       have hhne := HHC.o.ne HRC.o (by decide)
       have HHE := Ho (HHC.o.by HG5.o (fun e => hhne (Option.some.inj e).symm))
       have HFE := Ho (HFC.o.kept HG5.o (.inr (own_ne HFC.o HRC.o (by decide))))
       have HOE := Ho (HOC.o.kept HG5.o (.inr (own_ne HOC.o HRC.o (by decide))))
       clear HG5 k4 f4 hrne hhne
       generalize wD.setCell ⟨w4.heap.size, 4, none⟩ (.bool true) = wE at *
       dsimp only [List.set_cons_zero, List.set_cons_succ] at HRE
       have hone : ([.int .i64 (st0 : Int), .int .i64 mi, .slice af nf cf, Value.slice aB nB cB, .bool true] : List Value).toArray.all (·.oneCell') = true := by kernel_rfl
       refine wp_region_held_drew (S := fun wS => (∃ cs, cs.length = 5 ∧ At wS w.heap.size 77 cs) ∧ At wS w4.heap.size 77 [.int .i64 (st0 : Int), .int .i64 mi, .slice af nf cf, (.slice aB nB cB), .bool true] ∧ At wS w2.heap.size 177 [vs st, vs fl, .int .i64 (k : Int)] ∧ wS.ownsRow w.heap.size 89 2 (.slice af nf cf) nf (fdc fs) ∧ Ow wS w.heap.size (.slice aB nB cB) bo ∧ Up w wS) (by kernel_rfl) ⟨⟨z5, rfl, HAE.o.up (Up.refl _).drew⟩, HRE.o.up (Up.refl _).drew, HHE.o.up (Up.refl _).drew, ow_up HFE.o (Up.refl _).drew, ow_up HOE.o (Up.refl _).drew, HUE.o.drew⟩ (fun hS => ?_)
       refine tK 0 (some 78) (.load 77 (.tmp 7)) 77 (.agg [.int .i64 (st0 : Int), .int .i64 mi, .slice af nf cf, (.slice aB nB cB), .bool true].toArray) hS ?_ ?_
       · intro _ _ w5 hSw
         have hld := hSw.2.1.range
         clear hS
         clear hSw
         exact exec_load5 rfl rfl hld
       simp only [Act.put, pB, pC, pD]
       refine tN 1 (some 79) (.fieldAddr 177 (.tmp 5) 2) 0 (.pointer (some ⟨w2.heap.size, 2, none⟩)) hS ?_
       simp only [pA, pB, pC, pD]
       refine tK 2 (some 80) (.load 3 (.tmp 79)) 3 (.int .i64 (k : Int)) hS ?_ ?_
       · intro _ _ w5 hSw
         have hh2 : w5.cell? ⟨w2.heap.size, 2, none⟩ = some (.int .i64 (k : Int)) := hSw.2.2.1.cell (i := 2) rfl
         clear hSw hS
         go_simp
       simp only [pA, pB, pC, pD]
       refine tN 3 (some 81) (.move (.tmp 10)) 3 (.int .i64 (nb : Int)) hS ?_
       simp only [pA, pB, pC, pD]
       refine tK 4 (some 82) (.binOp .add 3 (.tmp 80) (.tmp 81) 3) 3 (.int .i64 ((k + nb : Nat) : Int)) hS ?_ ?_
       · intro _ _ w5 hSw
         clear hSw hS
         go_simp
         exact wrapk _ (by omega) (by omega)
       simp only [pA, pB, pC, pD]
       refine rD 5 none (.store 77 (.tmp 2) (.tmp 78)) 0 fun _ _ K hK => oper_of_list ?_
       obtain ⟨⟨cs, hcl, hcs2⟩, hS1, hS2, hS3, hS4, hS5⟩ := hS
       refine wpList_store_at rfl 77 _ _ rfl (w.heap.size) hcs2 [.int .i64 (st0 : Int), .int .i64 mi, .slice af nf cf, (.slice aB nB cB), .bool true] rfl rfl hcl.symm (by kernel_rfl) hone ?_
       intro w8 hA8 hg8
       have HA8 := Ho hA8
       have HU8 := Ho (hS5.bz hg8)
       have HF8 := Ho (hS3.kept hg8 (.inr (own_ne hS3 hcs2 (by decide))))
       have HO8 := Ho (hS4.kept hg8 (.inr (own_ne hS4 hcs2 (by decide))))
       have HR8 := Ho (hS1.by hg8 (by have := hS1.ne hcs2; intro e; have := Option.some.inj e; omega))
       have HH8 := Ho (hS2.by hg8 (by have := hS2.ne hcs2 (by decide); intro e; have := Option.some.inj e; omega))
       clear hA8 hg8 hcs2 hS2 hS1 hS3 hS4 hS5
       refine hK.out _ _ ⟨⟨_, rfl, HA8.o⟩, HR8.o, HH8.o, HF8.o, HO8.o, HU8.o⟩ (fun hS => ?_)
       clear hK K
       refine tN 6 (some 3) (.assign (.tmp 82)) 3 (.int .i64 ((k + nb : Nat) : Int)) hS ?_
       simp only [Act.put, pB, pC, pD]
       refine tN 7 (some 4) (.assign (.const .nilIface)) 106 .nilIface hS ?_
       simp only [pA, pB, pC, pD]
       clear hS
       refine wpAnyH_done (by kernel_rfl) ?_ _
       repeat go_step
       refine bodyPost_ret (result_cell_tmp2 Tryz.results82 _ _ (w.heap.size) [.int .i64 (st0 : Int), .int .i64 mi, .slice af nf cf, (.slice aB nB cB), .bool true] _ _ rfl rfl rfl HA8.o.range Tryz.underlying77 rfl (by kernel_rfl)) rfl ?_
      case' false =>
       have r1 : (wB.setCell ⟨w4.heap.size, 3, none⟩ (.slice aB nB cB)).cell? ⟨w4.heap.size, 1, none⟩ = some (.int .i64 mi) := HRD.o.cell (i := 1) rfl
       have r2 : (wB.setCell ⟨w4.heap.size, 3, none⟩ (.slice aB nB cB)).cell? ⟨w4.heap.size, 2, none⟩ = some (.slice af nf cf) := HRD.o.cell (i := 2) rfl
       go_wp2_with fail
       change Calls _ _ _ (wB.setCell ⟨w4.heap.size, 3, none⟩ (.slice aB nB cB)) _
       generalize wB.setCell ⟨w4.heap.size, 3, none⟩ (.slice aB nB cB) = wD at *
       have HCs := Ho (closes_walk af fs cf mi wD HFL.o hfl2 HSm.o (HW.o.up HUD.o).kd (HW.o.up HUD.o).gm)
       rw [HNf.o] at HCs
       obtain ⟨clv, hclv⟩ := ny (cls (mi == 0) fs)
       have HCv := Ho (show ((way == 1) || cls (mi == 0) fs) = clv by rw [hw, hclv]; rfl)
       rw [hclv] at HCs
       clear hclv hw r1 r2
       refine HCs.o.mono ?_
       rintro e wC ⟨rfl, uC⟩
       have HUC := Ho (HUD.o.trans uC)
       have HRC := Ho (HRD.o.up uC)
       have HAC := Ho (HAD.o.up uC)
       have HHC := Ho (HHD.o.up uC)
       have HFC := Ho (ow_up HFD.o uC)
       have HOC := Ho (ow_up HOD.o uC)
       clear uC
       dsimp only
       have k4 : wC.cell? ⟨w4.heap.size, 4, none⟩ = some (.bool false) := HRC.o.cell (i := 4) rfl
       have f4 := HRC.o.thaw 4
       go_wp2
       have HG5 := Ho (grown_at wC w4.heap.size 4 (.bool clv))
       have HRE := Ho (HRC.o.set 4 (.bool clv))
       have HUE := Ho (HUC.o.by HG5.o (fun g hg => by have := Option.some.inj hg; have := HUw4.o.size; omega))
       have hrne : w4.heap.size ≠ w.heap.size := by have := HUw4s.o; omega
       have HAE := Ho (HAC.o.by HG5.o (fun e => hrne (Option.some.inj e)))
       have hhne := HHC.o.ne HRC.o (by decide)
       have HHE := Ho (HHC.o.by HG5.o (fun e => hhne (Option.some.inj e).symm))
       have HFE := Ho (HFC.o.kept HG5.o (.inr (own_ne HFC.o HRC.o (by decide))))
       have HOE := Ho (HOC.o.kept HG5.o (.inr (own_ne HOC.o HRC.o (by decide))))
       clear HG5 k4 f4 hrne hhne
       generalize wC.setCell ⟨w4.heap.size, 4, none⟩ (.bool clv) = wE at *
       dsimp only [List.set_cons_zero, List.set_cons_succ] at HRE
       have hone : ([.int .i64 (st0 : Int), .int .i64 mi, .slice af nf cf, Value.slice aB nB cB, .bool clv] : List Value).toArray.all (·.oneCell') = true := by kernel_rfl
       refine wp_region_held_drew (S := fun wS => (∃ cs, cs.length = 5 ∧ At wS w.heap.size 77 cs) ∧ At wS w4.heap.size 77 [.int .i64 (st0 : Int), .int .i64 mi, .slice af nf cf, (.slice aB nB cB), .bool clv] ∧ At wS w2.heap.size 177 [vs st, vs fl, .int .i64 (k : Int)] ∧ wS.ownsRow w.heap.size 89 2 (.slice af nf cf) nf (fdc fs) ∧ Ow wS w.heap.size (.slice aB nB cB) bo ∧ Up w wS) (by kernel_rfl) ⟨⟨z5, rfl, HAE.o.up (Up.refl _).drew⟩, HRE.o.up (Up.refl _).drew, HHE.o.up (Up.refl _).drew, ow_up HFE.o (Up.refl _).drew, ow_up HOE.o (Up.refl _).drew, HUE.o.drew⟩ (fun hS => ?_)
       refine tK 0 (some 78) (.load 77 (.tmp 7)) 77 (.agg [.int .i64 (st0 : Int), .int .i64 mi, .slice af nf cf, (.slice aB nB cB), .bool clv].toArray) hS ?_ ?_
       · intro _ _ w5 hSw
         have hld := hSw.2.1.range
         clear hS
         clear hSw
         exact exec_load5 rfl rfl hld
       simp only [pA, pB, pC, pD]
       refine tN 1 (some 79) (.fieldAddr 177 (.tmp 5) 2) 0 (.pointer (some ⟨w2.heap.size, 2, none⟩)) hS ?_
       simp only [pA, pB, pC, pD]
       refine tK 2 (some 80) (.load 3 (.tmp 79)) 3 (.int .i64 (k : Int)) hS ?_ ?_
       · intro _ _ w5 hSw
         have hh2 : w5.cell? ⟨w2.heap.size, 2, none⟩ = some (.int .i64 (k : Int)) := hSw.2.2.1.cell (i := 2) rfl
         clear hSw hS
         go_simp
       simp only [pA, pB, pC, pD]
       refine tN 3 (some 81) (.move (.tmp 10)) 3 (.int .i64 (nb : Int)) hS ?_
       simp only [pA, pB, pC, pD]
       refine tK 4 (some 82) (.binOp .add 3 (.tmp 80) (.tmp 81) 3) 3 (.int .i64 ((k + nb : Nat) : Int)) hS ?_ ?_
       · intro _ _ w5 hSw
         clear hSw hS
         go_simp
         exact wrapk _ (by omega) (by omega)
       simp only [pA, pB, pC, pD]
       refine rD 5 none (.store 77 (.tmp 2) (.tmp 78)) 0 fun _ _ K hK => oper_of_list ?_
       obtain ⟨⟨cs, hcl, hcs2⟩, hS1, hS2, hS3, hS4, hS5⟩ := hS
       refine wpList_store_at rfl 77 _ _ rfl (w.heap.size) hcs2 [.int .i64 (st0 : Int), .int .i64 mi, .slice af nf cf, (.slice aB nB cB), .bool clv] rfl rfl hcl.symm (by kernel_rfl) hone ?_
       intro w8 hA8 hg8
       have HA8 := Ho hA8
       have HU8 := Ho (hS5.bz hg8)
       have HF8 := Ho (hS3.kept hg8 (.inr (own_ne hS3 hcs2 (by decide))))
       have HO8 := Ho (hS4.kept hg8 (.inr (own_ne hS4 hcs2 (by decide))))
       have HR8 := Ho (hS1.by hg8 (by have := hS1.ne hcs2; intro e; have := Option.some.inj e; omega))
       have HH8 := Ho (hS2.by hg8 (by have := hS2.ne hcs2 (by decide); intro e; have := Option.some.inj e; omega))
       clear hA8 hg8 hcs2 hS2 hS1 hS3 hS4 hS5
       refine hK.out _ _ ⟨⟨_, rfl, HA8.o⟩, HR8.o, HH8.o, HF8.o, HO8.o, HU8.o⟩ (fun hS => ?_)
       clear hK K
       refine tN 6 (some 3) (.assign (.tmp 82)) 3 (.int .i64 ((k + nb : Nat) : Int)) hS ?_
       simp only [Act.put, pB, pC, pD]
       refine tN 7 (some 4) (.assign (.const .nilIface)) 106 .nilIface hS ?_
       simp only [pA, pB, pC, pD]
       clear hS
       refine wpAnyH_done (by kernel_rfl) ?_ _
       repeat go_step
       refine bodyPost_ret (result_cell_tmp2 Tryz.results82 _ _ (w.heap.size) [.int .i64 (st0 : Int), .int .i64 mi, .slice af nf cf, (.slice aB nB cB), .bool clv] _ _ rfl rfl rfl HA8.o.range Tryz.underlying77 rfl (by kernel_rfl)) rfl ?_
      all_goals
       rw [HE.o]
       exact ⟨⟨af, cf, .slice aB nB cB, congrArg (fun x => Ending.returned (.tuple #[x, .int .i64 ((k + nb : Nat) : Int), .nilIface])) (rsV_eq HNf.o HCv.o).symm, Ho ⟨by unfold FdO; rw [HNf.o]; exact HF8.o, HO8.o⟩⟩, HU8.o⟩
def coN : ByteArray := ⟨#[99, 111, 110, 110, 101, 99, 116, 105, 111, 110]⟩
theorem isc_lws (f : FD) : (kdf f.n == 3) = (lws f.n.data.toList == tew.data.toList) := by
 unfold kdf kdp
 generalize lws f.n.data.toList = x
 by_cases h1 : x = lws (kdT.getD 0 (⟨#[]⟩, 0)).1.data.toList
 · subst h1; decide +kernel
 by_cases h2 : x = lws (kdT.getD 1 (⟨#[]⟩, 0)).1.data.toList
 · subst h2; decide +kernel
 by_cases h3 : x = lws (kdT.getD 2 (⟨#[]⟩, 0)).1.data.toList
 · subst h3; decide +kernel
 by_cases h4 : x = lws (kdT.getD 3 (⟨#[]⟩, 0)).1.data.toList
 · subst h4; decide +kernel
 have e1 : lws (kdT.getD 2 (⟨#[]⟩, 0)).1.data.toList = tew.data.toList := by decide +kernel
 have hf : kdT.find? (fun p => lws p.1.data.toList == x) = none := by
  rw [List.find?_eq_none]
  intro p hp
  rw [beq_iff_eq]
  intro e
  have hk : kdT = [kdT.getD 0 (⟨#[]⟩, 0), kdT.getD 1 (⟨#[]⟩, 0), kdT.getD 2 (⟨#[]⟩, 0), kdT.getD 3 (⟨#[]⟩, 0)] := rfl
  rw [hk] at hp
  simp only [List.mem_cons, List.not_mem_nil, or_false] at hp
  rcases hp with rfl | rfl | rfl | rfl
  · exact h1 e.symm
  · exact h2 e.symm
  · exact h3 e.symm
  exact h4 e.symm
 rw [e1] at h3
 rw [hf]
 simp [h3]
theorem ist_lws (f : FD) : (kdf f.n == 4) = (lws f.n.data.toList == clw.data.toList) := by
 unfold kdf kdp
 generalize lws f.n.data.toList = x
 by_cases h1 : x = lws (kdT.getD 0 (⟨#[]⟩, 0)).1.data.toList
 · subst h1; decide +kernel
 by_cases h2 : x = lws (kdT.getD 1 (⟨#[]⟩, 0)).1.data.toList
 · subst h2; decide +kernel
 by_cases h3 : x = lws (kdT.getD 2 (⟨#[]⟩, 0)).1.data.toList
 · subst h3; decide +kernel
 by_cases h4 : x = lws (kdT.getD 3 (⟨#[]⟩, 0)).1.data.toList
 · subst h4; decide +kernel
 have e1 : lws (kdT.getD 3 (⟨#[]⟩, 0)).1.data.toList = clw.data.toList := by decide +kernel
 have hf : kdT.find? (fun p => lws p.1.data.toList == x) = none := by
  rw [List.find?_eq_none]
  intro p hp
  rw [beq_iff_eq]
  intro e
  have hk : kdT = [kdT.getD 0 (⟨#[]⟩, 0), kdT.getD 1 (⟨#[]⟩, 0), kdT.getD 2 (⟨#[]⟩, 0), kdT.getD 3 (⟨#[]⟩, 0)] := rfl
  rw [hk] at hp
  simp only [List.mem_cons, List.not_mem_nil, or_false] at hp
  rcases hp with rfl | rfl | rfl | rfl
  · exact h1 e.symm
  · exact h2 e.symm
  · exact h3 e.symm
  exact h4 e.symm
 rw [e1] at h4
 rw [hf]
 simp [h4]
theorem isk_lws (f : FD) : (kdf f.n == 2) = (lws f.n.data.toList == coN.data.toList) := by
 unfold kdf kdp
 generalize lws f.n.data.toList = x
 by_cases h1 : x = lws (kdT.getD 0 (⟨#[]⟩, 0)).1.data.toList
 · subst h1; decide +kernel
 by_cases h2 : x = lws (kdT.getD 1 (⟨#[]⟩, 0)).1.data.toList
 · subst h2; decide +kernel
 by_cases h3 : x = lws (kdT.getD 2 (⟨#[]⟩, 0)).1.data.toList
 · subst h3; decide +kernel
 by_cases h4 : x = lws (kdT.getD 3 (⟨#[]⟩, 0)).1.data.toList
 · subst h4; decide +kernel
 have e1 : lws (kdT.getD 1 (⟨#[]⟩, 0)).1.data.toList = coN.data.toList := by decide +kernel
 have hf : kdT.find? (fun p => lws p.1.data.toList == x) = none := by
  rw [List.find?_eq_none]
  intro p hp
  rw [beq_iff_eq]
  intro e
  have hk : kdT = [kdT.getD 0 (⟨#[]⟩, 0), kdT.getD 1 (⟨#[]⟩, 0), kdT.getD 2 (⟨#[]⟩, 0), kdT.getD 3 (⟨#[]⟩, 0)] := rfl
  rw [hk] at hp
  simp only [List.mem_cons, List.not_mem_nil, or_false] at hp
  rcases hp with rfl | rfl | rfl | rfl
  · exact h1 e.symm
  · exact h2 e.symm
  · exact h3 e.symm
  exact h4 e.symm
 rw [e1] at h2
 rw [hf]
 simp [h2]
def dgl (l : List UInt8) : Er Int := if isN l = true then (if nv l ≤ 1048576 then .ok (nv l : Int) else .error 7) else .error 5
def rln (fs : List FD) (mi : Int) : Er Int := match alv fs tew, alv fs clw with
 | a :: r, t => if mi = 0 ∨ r ≠ [] ∨ lws a.data.toList ≠ chw.data.toList ∨ t ≠ [] then .error 5 else .ok (-2)
 | [], [] => .ok (-1)
 | [], [s] => dgl s.data.toList
 | [], _ :: _ :: _ => .error 5
theorem frl_dgl {s : List UInt8} (h : s.length ≤ 1048576) : frl s = match dgl s with | .error k => .error k | .ok n => .ok (2, n.toNat) := by
 unfold frl dgl
 by_cases hN : isN s = true
 · by_cases hv : nv s ≤ 1048576
   · have hp : prs s 1048576 = ((nv s : Int), 0) := by unfold prs; rw [if_neg (by omega), if_pos hN, if_pos ⟨by omega, by omega⟩]
     rw [hp, if_pos hN, if_pos hv]
     rfl
   have hp : prs s 1048576 = (0, 63) := by unfold prs; rw [if_neg (by omega), if_pos hN, if_neg (fun e => hv (by omega))]
   rw [hp, if_pos hN, if_neg hv]
   rfl
 have hp : prs s 1048576 = (0, 62) := by unfold prs; rw [if_neg (by omega), if_neg hN]
 rw [hp, if_neg hN]
 rfl
theorem chw_low : lws chw.data.toList = chw.data.toList := by decide
theorem filt_any (p q : FD → Bool) (fs : List FD) : fs.any (fun f => p f && q f) = (fs.filter p).any q := by
 induction fs with
 | nil => rfl
 | cons f r ih =>
  rw [List.any_cons, ih, List.filter_cons]
  cases hp : p f <;> simp
theorem frm_rln (fs : List FD) (mi u : Int) (hs : ∀ f ∈ fs, f.v.size ≤ 1048576) : frm fs mi u = match rln fs mi with
  | .error k => .error k
  | .ok n => if n = -2 then .ok (3, 0) else if n = -1 then .ok (u, 0) else .ok (2, n.toNat) := by
 have hA : alv fs tew = (fs.filter isc).map (·.v) := by
  unfold alv
  congr 2
  funext f
  rw [← isc_lws]
  rfl
 have hB : alv fs clw = (fs.filter fun f => kdf f.n == 4).map (·.v) := by
  unfold alv
  congr 2
  funext f
  rw [← ist_lws]
 have hC : fs.countP tls = (fs.filter isc).length + (fs.filter fun f => kdf f.n == 4).length := by
  clear hA hB hs
  induction fs with
  | nil => rfl
  | cons f r ih =>
   rw [List.countP_cons, ih, List.filter_cons, List.filter_cons]
   unfold tls isc
   by_cases h3 : (kdf f.n == 3) = true
   · have h4 : (kdf f.n == 4) = false := by rw [beq_iff_eq.1 h3]; rfl
     simp [h3, h4]; omega
   rw [Bool.not_eq_true] at h3
   by_cases h4 : (kdf f.n == 4) = true
   · simp [h3, h4]; omega
   rw [Bool.not_eq_true] at h4
   simp [h3, h4]
 have hD : fs.any (bdc mi) = (fs.filter isc).any fun f => (mi == 0 || !(lws f.v.data.toList == lws chw.data.toList)) := filt_any isc (fun f => (mi == 0 || !(lws f.v.data.toList == lws chw.data.toList))) fs
 have hE : fs.any isc = !(fs.filter isc).isEmpty := by
  clear hA hB hs hC hD
  induction fs with
  | nil => rfl
  | cons f r ih =>
   rw [List.any_cons, ih, List.filter_cons]
   cases isc f <;> simp
 have hL : fs.filter isc = [] → fs.filter tls = fs.filter fun f => kdf f.n == 4 := by
  intro h
  refine List.filter_congr (fun f hf => ?_)
  have h1 := List.filter_eq_nil_iff.1 h f hf
  unfold tls
  unfold isc at h1
  rw [Bool.not_eq_true] at h1
  rw [h1, Bool.false_or]
 have hS : ∀ f ∈ fs.filter (fun f => kdf f.n == 4), f.v.size ≤ 1048576 := fun f hf => hs f (List.mem_filter.1 hf).1
 unfold frm rln lst
 rw [hA, hB, hC, hD, hE]
 generalize hgA : fs.filter isc = A at *
 generalize hgB : (fs.filter fun f => kdf f.n == 4) = B at *
 clear hA hB hC hD hE hgA hgB hs
 cases A with
 | nil =>
  rw [hL rfl]
  cases B with
  | nil => rfl
  | cons b B =>
   cases B with
   | nil =>
    have h1 := hS b (by simp)
    simp only [List.any_nil, Bool.false_eq_true, if_false, List.length_nil, List.length_cons, Nat.zero_add, Nat.lt_irrefl, List.isEmpty_nil, Bool.not_true, List.getLast?_singleton, List.map_nil, List.map_cons]
    rw [if_neg (by decide), frl_dgl (by rw [← Go.Lib.size_eq]; exact h1)]
    unfold dgl
    split
    · rename_i e; split at e
      · split at e
        · cases e
        injection e with e; subst e; rfl
      injection e with e; subst e; rfl
    rename_i n e; split at e
    · split at e
      · injection e with e; subst e
        rw [if_neg (by omega), if_neg (by omega)]
      cases e
    cases e
   | cons b' B =>
    simp only [List.any_nil, Bool.false_eq_true, if_false, List.length_nil, List.length_cons, List.map_nil, List.map_cons]
    rw [if_pos (by omega)]
 | cons a A =>
  by_cases hmi : mi = 0
  · subst hmi
    simp
  have hz : (mi == 0) = false := by rw [beq_eq_false_iff_ne]; exact hmi
  rw [hz, chw_low]
  by_cases ha : lws a.v.data.toList = chw.data.toList
  · have ha2 : (lws a.v.data.toList == chw.data.toList) = true := by rw [beq_iff_eq]; exact ha
    cases A with
    | nil =>
     cases B with
     | nil => simp [hmi, ha]
     | cons b B => simp [ha2]
    | cons a' A => simp; intros; omega
  have ha2 : (lws a.v.data.toList == chw.data.toList) = false := by rw [beq_eq_false_iff_ne]; exact ha
  simp [ha2, ha]
def cld (l : List UInt8) : Bool := lws (trm l) == wcl.data.toList
def kpa (l : List UInt8) : Bool := lws (trm l) == wka.data.toList
def cwd (fs : List FD) : List (List UInt8) := (alv fs coN).flatMap fun v => pcs 44 v.data.toList
theorem wcl_low : lws wcl.data.toList = wcl.data.toList := by decide
theorem wka_low : lws wka.data.toList = wka.data.toList := by decide
theorem wrd_any : ∀ (c : Bool) (l : List ByteArray), wrd c l = if (l.map (·.data.toList)).any cld = true then (true, true) else (if (l.map (·.data.toList)).any kpa = true then false else c, false)
 | c, [] => rfl
 | c, x :: r => by
  rw [wrd, wcl_low, wka_low, wrd_any]
  rw [List.map_cons, List.any_cons, List.any_cons]
  change (if cld x.data.toList = true then (true, true) else if (r.map (·.data.toList)).any cld = true then (true, true) else (if (r.map (·.data.toList)).any kpa = true then false else if kpa x.data.toList = true then false else c, false)) = _
  cases cld x.data.toList <;> cases (r.map (·.data.toList)).any cld <;> cases (r.map (·.data.toList)).any kpa <;> cases kpa x.data.toList <;> simp
theorem sps_pcs (v : ByteArray) : (sps v).map (·.data.toList) = pcs 44 v.data.toList := by
 unfold sps
 rw [Go.Lib.splitB_data]
 show Go.Lib.splitK [44] 0 (Go.Lib.count v.data.toList [44]) v.data.toList = _
 refine splitK_pcs 44 _ _ ?_
 unfold Go.Lib.count
 rw [count_one 44 _ _ (Nat.lt_succ_self _)]
 exact Nat.le_refl _
theorem cls_ref : ∀ (c : Bool) (fs : List FD), cls c fs = ((cwd fs).any cld || (c && !(cwd fs).any kpa))
 | c, [] => by simp [cls, cwd, alv]
 | c, f :: r => by
  rw [cls, isk_lws]
  have e : cwd (f :: r) = (if (lws f.n.data.toList == coN.data.toList) = true then pcs 44 f.v.data.toList else []) ++ cwd r := by
   unfold cwd alv
   rw [List.filter_cons]
   cases (lws f.n.data.toList == coN.data.toList) <;> simp
  rw [e, List.any_append, List.any_append]
  cases hk : (lws f.n.data.toList == coN.data.toList) with
  | false =>
   rw [if_neg (by simp), if_neg (by simp), cls_ref c r]
   rfl
  | true =>
   rw [if_pos rfl, if_pos rfl, wrd_any, sps_pcs]
   cases h1 : (pcs 44 f.v.data.toList).any cld with
   | true => simp
   | false =>
    simp only [Bool.false_eq_true, if_false, Bool.false_or]
    rw [cls_ref]
    cases (pcs 44 f.v.data.toList).any kpa <;> simp
def sok (l : List UInt8) : Bool := (decide (12 ≤ l.length) && (l.getD 8 0 == 32 && (isD (l.getD 9 0) && (isD (l.getD 10 0) && isD (l.getD 11 0))))) && (decide (l.length = 12) || (l.getD 12 0 == 32 && vlu (l.drop 12)))
def stn (l : List UInt8) : Nat := 100 * ((l.getD 9 0).toNat - 48) + 10 * ((l.getD 10 0).toNat - 48) + ((l.getD 11 0).toNat - 48)
theorem isD_32 {x : UInt8} (h : isD x = true) : x ≠ 32 := by
 rintro rfl
 revert h
 decide
theorem three_of {s : List UInt8} (h : rsO s = true) : ∃ a b c, isD a = true ∧ isD b = true ∧ isD c = true ∧ s = [a, b, c] := by
 unfold rsO at h
 rw [Bool.and_eq_true, decide_eq_true_eq] at h
 obtain ⟨h1, h2⟩ := h
 match s, h1 with
 | [a, b, c], _ =>
  simp only [List.all_cons, List.all_nil, Bool.and_true, Bool.and_eq_true] at h2
  exact ⟨a, b, c, h2.1, h2.2.1, h2.2.2, rfl⟩
theorem cut_no32 {l : List UInt8} (h : (32 : UInt8) ∉ l) : c1 32 l = l ∧ c2 32 l = [] := by
 rcases cut_cases 32 l with ⟨_, hc⟩ | ⟨a, b, hn, rfl, hc⟩
 · unfold c1 c2; rw [hc]; exact ⟨rfl, rfl⟩
 exact absurd (by simp) h
theorem cut_32 {a : List UInt8} (b : List UInt8) (h : (32 : UInt8) ∉ a) : c1 32 (a ++ 32 :: b) = a ∧ c2 32 (a ++ 32 :: b) = b := by
 rcases cut_cases 32 (a ++ 32 :: b) with ⟨hn, hc⟩ | ⟨a', b', hn, e, hc⟩
 · exact absurd (by simp) hn
 have h1 := pcs_cut b h
 rw [e, pcs_cut b' hn] at h1
 injection h1 with h1 _
 subst h1
 have h2 := List.append_cancel_left e
 injection h2 with _ h2
 unfold c1 c2
 rw [hc]
 exact ⟨rfl, h2.symm⟩
theorem vok_len {d : List UInt8} (h : vok d = true) : d.length = 8 := by
 obtain ⟨x, y, _, _, rfl⟩ := vok_form h
 rfl
theorem sok_form {l : List UInt8} (h : sok l = true) : ∃ a b c t, isD a = true ∧ isD b = true ∧ isD c = true ∧ l = l.take 8 ++ 32 :: a :: b :: c :: t ∧ (l.take 8).length = 8 ∧ (t = [] ∨ ∃ r, t = 32 :: r ∧ vlu r = true) := by
 unfold sok at h
 simp only [Bool.and_eq_true, decide_eq_true_eq, Bool.or_eq_true, beq_iff_eq] at h
 obtain ⟨⟨h12, h8, h9, h10, h11⟩, ht⟩ := h
 have g : ∀ i (hi : i < l.length), l.getD i 0 = l[i] := fun i hi => by rw [List.getD_eq_getElem?_getD, List.getElem?_eq_getElem hi]; rfl
 rw [g 8 (by omega)] at h8
 rw [g 9 (by omega)] at h9
 rw [g 10 (by omega)] at h10
 rw [g 11 (by omega)] at h11
 refine ⟨l[9]'(by omega), l[10]'(by omega), l[11]'(by omega), l.drop 12, h9, h10, h11, ?_, by rw [List.length_take]; omega, ?_⟩
 · conv => lhs; rw [← List.take_append_drop 8 l]
   rw [List.drop_eq_getElem_cons (show 8 < l.length by omega), List.drop_eq_getElem_cons (show 9 < l.length by omega), List.drop_eq_getElem_cons (show 10 < l.length by omega), List.drop_eq_getElem_cons (show 11 < l.length by omega), h8]
 rcases ht with ht | ⟨hb, hv⟩
 · left; exact List.drop_eq_nil_of_le (by omega)
 by_cases hl : l.length = 12
 · left; exact List.drop_eq_nil_of_le (by omega)
 right
 rw [g 12 (by omega)] at hb
 rw [List.drop_eq_getElem_cons (show 12 < l.length by omega), hb] at hv ⊢
 refine ⟨_, rfl, ?_⟩
 unfold vlu at hv ⊢
 rw [List.all_cons, Bool.and_eq_true] at hv
 exact hv.2
theorem sok_of {v t : List UInt8} {a b c : UInt8} (hv : v.length = 8) (ha : isD a = true) (hb : isD b = true) (hc : isD c = true) (ht : t = [] ∨ ∃ r, t = 32 :: r ∧ vlu r = true) : sok (v ++ 32 :: a :: b :: c :: t) = true ∧ (v ++ 32 :: a :: b :: c :: t).take 8 = v ∧ stn (v ++ 32 :: a :: b :: c :: t) = nv [a, b, c] := by
 match v, hv with
 | [v0, v1, v2, v3', v4, v5, v6, v7], _ =>
  refine ⟨?_, rfl, ?_⟩
  · unfold sok
    show (decide (12 ≤ t.length + 4 + 8) && ((32 : UInt8) == 32 && (isD a && (isD b && isD c))) && (decide (t.length + 4 + 8 = 12) || (t.getD 0 0 == 32 && vlu t))) = true
    rw [ha, hb, hc]
    rcases ht with rfl | ⟨r, rfl, hr⟩
    · decide
    have : vlu (32 :: r) = true := by unfold vlu at hr ⊢; rw [List.all_cons, hr]; decide
    rw [this]
    simp
  show 100 * (a.toNat - 48) + 10 * (b.toNat - 48) + (c.toNat - 48) = nv [a, b, c]
  have h1 := isD_nat ha
  have h2 := isD_nat hb
  have h3 := isD_nat hc
  unfold nv nvf
  simp only [List.foldl_cons, List.foldl_nil]
  omega
theorem rsl_ref (l : List UInt8) : rsl l = if (sok l && vok (l.take 8)) = false then .error 3 else if ¬ ((vrs (l.take 8)).1 = 1 ∧ (vrs (l.take 8)).2 ≤ 1) then .error 4 else if sto (stn l : Int) = false then .error 11 else .ok (stn l, (vrs (l.take 8)).2) := by
 cases hs : (sok l && vok (l.take 8)) with
 | true =>
  rw [Bool.and_eq_true] at hs
  obtain ⟨hs, hv⟩ := hs
  obtain ⟨a, b, c, t, ha, hb, hc, hl, h8, ht⟩ := sok_form hs
  generalize l.take 8 = v at *
  subst hl
  have hn := vok_32 hv
  obtain ⟨e1, e2⟩ := cut_32 (a :: b :: c :: t) hn
  obtain ⟨_, _, hst⟩ := sok_of h8 ha hb hc ht
  have hn3 : (32 : UInt8) ∉ [a, b, c] := by
   intro hm
   simp only [List.mem_cons, List.not_mem_nil, or_false] at hm
   rcases hm with e | e | e
   · exact isD_32 ha e.symm
   · exact isD_32 hb e.symm
   exact isD_32 hc e.symm
  have e3 : c1 32 (a :: b :: c :: t) = [a, b, c] ∧ vlu (c2 32 (a :: b :: c :: t)) = true := by
   rcases ht with rfl | ⟨r, rfl, hr⟩
   · obtain ⟨k1, k2⟩ := cut_no32 hn3
     rw [k1, k2]
     exact ⟨rfl, rfl⟩
   obtain ⟨k1, k2⟩ := cut_32 r hn3
   exact ⟨k1, by rw [show a :: b :: c :: 32 :: r = [a, b, c] ++ 32 :: r from rfl, k2]; exact hr⟩
  have hO : rsO [a, b, c] = true := by unfold rsO; simp [ha, hb, hc]
  unfold rsl
  rw [e1, e2, e3.1, e3.2, hO, hv, hst, if_neg (by simp), if_neg (by simp), mno_vrs hv]
  have hN : rsN [a, b, c] = nv [a, b, c] := by unfold rsN; rw [if_pos hO]
  rw [hN]
  by_cases hk : (vrs v).1 = 1 ∧ (vrs v).2 ≤ 1
  · rw [if_pos hk, if_neg (fun e => e hk)]
  rw [if_neg hk, if_pos hk]
 | false =>
  rw [if_pos rfl]
  unfold rsl
  rw [if_pos]
  cases hb : (rsO (c1 32 (c2 32 l)) && (vok (c1 32 l) && vlu (c2 32 (c2 32 l)))) with
  | false => rfl
  | true =>
   exfalso
   simp only [Bool.and_eq_true] at hb
   obtain ⟨h1, h2, h3⟩ := hb
   rcases cut_cases 32 l with ⟨hn, hc⟩ | ⟨v, r, hn, rfl, hc⟩
   · have e2 : c2 32 l = [] := by unfold c2; rw [hc]
     rw [e2, (cut_no32 (l := []) (by simp)).1] at h1
     revert h1
     decide
   obtain ⟨k1, k2⟩ := cut_32 r hn
   rw [k2] at h1 h3
   rw [k1] at h2
   have hv8 := vok_len h2
   rcases cut_cases 32 r with ⟨hn2, hc2⟩ | ⟨s, t, hn2, rfl, hc2⟩
   · rw [(cut_no32 hn2).1] at h1
     obtain ⟨a, b, c, ha, hb, hc3, rfl⟩ := three_of h1
     obtain ⟨k3, k4, _⟩ := sok_of (t := []) hv8 ha hb hc3 (.inl rfl)
     rw [k3, k4, h2] at hs
     cases hs
   obtain ⟨k5, k6⟩ := cut_32 t hn2
   rw [k5] at h1
   rw [k6] at h3
   obtain ⟨a, b, c, ha, hb, hc3, rfl⟩ := three_of h1
   obtain ⟨k3, k4, _⟩ := sok_of (t := 32 :: t) hv8 ha hb hc3 (.inr ⟨t, rfl, h3⟩)
   have e : v ++ 32 :: ([a, b, c] ++ 32 :: t) = v ++ 32 :: a :: b :: c :: 32 :: t := rfl
   rw [e, k3, k4, h2] at hs
   cases hs
theorem vok8 {l : List UInt8} (h : l.length = 8) : vok l = ((l.take 5 == htp.data.toList) && (isD (l[5]'(by omega)) && ((l[6]'(by omega)) == 46 && isD (l[7]'(by omega))))) := by
 match l, h with
 | [a, b, c, d, e, f, g, i], _ =>
  unfold vok Go.Lib.hasPrefix
  have h1 : (htp.data.toList.isPrefixOf [a, b, c, d, e, f, g, i]) = ([a, b, c, d, e] == htp.data.toList) := by
   rw [Bool.eq_iff_iff, List.isPrefixOf_iff_prefix, beq_iff_eq]
   constructor
   · rintro ⟨t, ht⟩
     have h2 := congrArg (List.take 5) ht
     exact h2.symm
   intro he
   exact ⟨[f, g, i], by rw [← he]; rfl⟩
  rw [h1]
  show (_ && v3 [f, g, i]) = _
  simp only [v3, Bool.and_assoc]
  rfl
theorem vok_len8 {d : List UInt8} (h : vok d = true) : d.length = 8 := by
 obtain ⟨x, y, _, _, rfl⟩ := vok_form h
 rfl
theorem neU {x : UInt8} {k : Int} {c : UInt8} (hk : (c.toNat : Int) = k) (h : x ≠ c) : ((x.toNat : Int) != k) = true := by
 rw [bne_iff_ne]
 intro e
 exact h (UInt8.toNat_inj.1 (by omega))
set_option maxRecDepth 100000 in
set_option maxHeartbeats 2000000 in
theorem Rversion_walk (s : ByteArray) (w : World) : Calls Tryz.prog 75 #[.string s] w fun e w' => e = .returned (.tuple #[.int .i64 (vrs s.data.toList).1, .int .i64 (vrs s.data.toList).2]) ∧ Up w w' := by
 have HS := Ho (Go.Lib.size_eq s)
 obtain ⟨rv, hrv⟩ := ny (vrs s.data.toList)
 have HR := Ho hrv
 rw [hrv]
 clear hrv
 have HNo := Ho (show vok s.data.toList = false → rv = (-1, -1) from fun h => by
  rw [← HR.o]
  unfold vrs
  rw [h]
  rfl)
 by_cases h8 : s.size = 8
 · have h8z : ((s.size : Int) != 8) = false := by rw [h8]; rfl
   have h8s : (s.size : Int) = 8 := by omega
   have hL8 : s.data.toList.length = 8 := by rw [← HS.o]; exact h8
   have HV := Ho (vok8 hL8)
   have hg5 := sget' s 5 (by omega)
   have hg6 := sget' s 6 (by omega)
   have hg7 := sget' s 7 (by omega)
   have HVal := Ho (show vok s.data.toList = true → rv = (((s.data.toList[5]'(by omega)).toNat : Int) - 48, ((s.data.toList[7]'(by omega)).toNat : Int) - 48) from fun h => by
    rw [← HR.o]
    unfold vrs
    rw [if_pos h, List.getD_eq_getElem?_getD, List.getD_eq_getElem?_getD, List.getElem?_eq_getElem (by omega), List.getElem?_eq_getElem (by omega)]
    rfl)
   have HP := Ho (show ((s.extract 0 5).toList == [72, 84, 84, 80, 47]) = (s.data.toList.take 5 == htp.data.toList) by rw [Go.Lib.toList_data, Go.Lib.extract_from_zero]; rfl)
   obtain ⟨P, hP⟩ := ny (s.data.toList.take 5 == htp.data.toList)
   rw [hP] at HV HP
   clear hP
   generalize s.data.toList[5]'(by omega) = x5 at *
   generalize s.data.toList[6]'(by omega) = x6 at *
   generalize s.data.toList[7]'(by omega) = x7 at *
   clear HR hL8
   have hP := HP.o
   clear HP
   cases P with
   | false =>
    have HE := Ho (HNo.o (by rw [HV.o]; rfl))
    go_enter Tryz.func75, Tryz.ntmps75
    go_wp2
    go_ret2
    rw [HE.o]
    exact ⟨rfl, Up.refl _⟩
   | true =>
    have HD5 := Ho (Rdigit_walk x5 w)
    have HD7 := Ho (Rdigit_walk x7 w)
    go_enter Tryz.func75, Tryz.ntmps75
    go_wp2_with fail
    refine HD5.o.mono ?_
    rintro e w9 ⟨rfl, h9⟩
    obtain rfl := h9.symm
    clear h9
    dsimp only
    cases h5 : isD x5 with
    | false =>
     have HE := Ho (HNo.o (by rw [HV.o, h5]; rfl))
     go_wp2
     go_ret2
     rw [HE.o]
     exact ⟨rfl, Up.refl _⟩
    | true =>
     by_cases h6 : x6 = 46
     · subst h6
       go_wp2_with fail
       refine HD7.o.mono ?_
       rintro e w9 ⟨rfl, h9⟩
       obtain rfl := h9.symm
       clear h9
       dsimp only
       cases h7 : isD x7 with
       | false =>
        have HE := Ho (HNo.o (by rw [HV.o, h7]; simp))
        go_wp2
        go_ret2
        rw [HE.o]
        exact ⟨rfl, Up.refl _⟩
       | true =>
        have HE := Ho (HVal.o (by rw [HV.o, h5, h7]; rfl))
        have k5 := isD_nat h5
        have k7 := isD_nat h7
        clear h5 h7 HD5 HD7 HV HNo HVal
        have hw2 : IntKind.u8.wrap ((x5.toNat : Int) - 48) = (x5.toNat : Int) - 48 := wrapu8 _ (by omega) (by omega)
        have hw3 : IntKind.i64.wrap ((x5.toNat : Int) - 48) = (x5.toNat : Int) - 48 := wrapk _ (by omega) (by omega)
        have hw4 : IntKind.u8.wrap ((x7.toNat : Int) - 48) = (x7.toNat : Int) - 48 := wrapu8 _ (by omega) (by omega)
        have hw5 : IntKind.i64.wrap ((x7.toNat : Int) - 48) = (x7.toNat : Int) - 48 := wrapk _ (by omega) (by omega)
        go_wp2
        refine wp_region_held_drew (S := fun w2 => Up w w2) (by kernel_rfl) (Up.refl _).drew (fun hS => ?_)
        refine tN 0 (some 29) (.move (.tmp 0)) 9 (.string s) hS ?_
        simp only [Act.put, pB, pC, pD]
        refine tN 1 (some 30) (.index 9 (.tmp 29) (.const (.int .i64 5))) 5 (.int .u8 (x5.toNat : Int)) hS ?_
        simp only [pA, pB, pC, pD]
        refine tN 2 (some 31) (.binOp .sub 5 (.tmp 30) (.const (.int .u8 48)) 5) 5 (.int .u8 ((x5.toNat : Int) - 48)) hS ?_
        simp only [pA, pB, pC, pD]
        refine tN 3 (some 32) (.convert 5 3 (.tmp 31)) 3 (.int .i64 ((x5.toNat : Int) - 48)) hS ?_
        simp only [pA, pB, pC, pD]
        refine tN 4 (some 33) (.move (.tmp 0)) 9 (.string s) hS ?_
        simp only [pA, pB, pC, pD]
        refine tN 5 (some 34) (.index 9 (.tmp 33) (.const (.int .i64 7))) 5 (.int .u8 (x7.toNat : Int)) hS ?_
        simp only [pA, pB, pC, pD]
        refine tN 6 (some 35) (.binOp .sub 5 (.tmp 34) (.const (.int .u8 48)) 5) 5 (.int .u8 ((x7.toNat : Int) - 48)) hS ?_
        simp only [pA, pB, pC, pD]
        refine tN 7 (some 36) (.convert 5 3 (.tmp 35)) 3 (.int .i64 ((x7.toNat : Int) - 48)) hS ?_
        simp only [pA, pB, pC, pD]
        refine tN 8 (some 2) (.assign (.tmp 32)) 3 (.int .i64 ((x5.toNat : Int) - 48)) hS ?_
        simp only [pA, pB, pC, pD]
        refine tN 9 (some 3) (.assign (.tmp 36)) 3 (.int .i64 ((x7.toNat : Int) - 48)) hS ?_
        simp only [pA, pB, pC, pD]
        clear hS
        refine wpAnyH_done (by kernel_rfl) ?_ _
        go_wp2
        go_ret2
        rw [HE.o]
        exact ⟨rfl, (Up.refl _).drew⟩
     have h6z := neU (k := 46) rfl h6
     have HE := Ho (HNo.o (by rw [HV.o, show (x6 == 46) = false by simpa using h6]; simp))
     go_wp2
     go_ret2
     rw [HE.o]
     exact ⟨rfl, Up.refl _⟩
 have h8z : ((s.size : Int) != 8) = true := by simp; omega
 have HE := Ho (HNo.o (by
  cases h : vok s.data.toList with
  | false => rfl
  | true => exact absurd ((HS.o).trans (vok_len8 h)) h8))
 go_enter Tryz.func75, Tryz.ntmps75
 go_wp2
 go_ret2
 rw [HE.o]
 exact ⟨rfl, Up.refl _⟩
def lnR : Er Int → Value
 | .error k => .tuple #[.int .i64 0, .int .i64 (nums k)]
 | .ok n => .tuple #[.int .i64 n, .int .i64 0]
theorem nv_app (a b : List UInt8) : nv a ≤ nv (a ++ b) := by
 unfold nv
 have h : nvf 0 (a ++ b) = nvf (nvf 0 a) b := by unfold nvf; rw [List.foldl_append]
 rw [h]
 exact nvf_le _ _
theorem nv_take (l : List UInt8) (i : Nat) : nv (l.take i) ≤ nv l := by
 conv => rhs; rw [← List.take_append_drop i l]
 exact nv_app _ _
theorem alv_small {fs : List FD} {nm : ByteArray} (hl : szs fs ≤ 1048576) : (alv fs nm).length ≤ 1048576 ∧ ∀ v ∈ alv fs nm, v.size ≤ 1048576 := by
 refine ⟨?_, fun v hv => ?_⟩
 · have h1 := szs_len fs
   unfold alv
   rw [List.length_map]
   have h2 := List.length_filter_le (fun f => lws f.n.data.toList == nm.data.toList) fs
   omega
 obtain ⟨f, hf, rfl⟩ := List.mem_map.1 hv
 have := szs_mem fs (List.mem_filter.1 hf).1
 omega
theorem isN_form {l : List UInt8} (h : l.all isD = true) (h0 : l ≠ []) (h1 : ¬ (1 < l.length ∧ l.head? = some 48)) : isN l = true := by
 unfold isN
 rw [show l.all TextNum.isD = l.all isD from rfl, h, Bool.true_and]
 have hp := List.length_pos_iff.2 h0
 by_cases hl : l.length = 1
 · simp [hl]
 have hl2 : 1 < l.length := by omega
 simp [hl2]
 right
 exact fun e => h1 ⟨hl2, e⟩
set_option maxRecDepth 100000 in
set_option maxHeartbeats 4000000 in
theorem Rlength_walk (a : Option Addr) (fs : List FD) (c : Nat) (mi : Int) (w : World) (h : FdL w a fs c) (hl : szs fs ≤ 1048576) :
  Calls Tryz.prog 77 #[.slice a fs.length c, .int .i64 mi] w fun e w' => e = .returned (lnR (rln fs mi)) ∧ Up w w' := by
 have HA1 := Ho (Rall_walk a fs c tew w h (by omega))
 have HA2 := Ho (fun w2 (k : Up w w2) => Rall_walk a fs c clw w2 (h.up k) (by omega))
 have hC1 := alv_small (nm := tew) hl
 have hC2 := alv_small (nm := clw) hl
 obtain ⟨rv, hrv⟩ := ny (rln fs mi)
 rw [hrv]
 have HR0 := Ho hrv
 unfold rln at HR0
 clear hrv h hl
 generalize alv fs tew = cod at *
 generalize alv fs clw = tol at *
 unfold tew at HA1
 unfold clw at HA2
 cases cod with
 | cons A r =>
  dsimp only at HR0
  obtain ⟨hc1, hc2⟩ := hC1
  have hAz := hc2 A (by simp)
  have HR := Ho HR0.o
  clear HR0 hc2
  obtain ⟨n1, hn1⟩ := ny ((A :: r).length)
  have hn0 : 0 < n1 := by rw [← hn1, List.length_cons]; omega
  have HN1 := Ho hn1
  rw [hn1] at HA1 hc1
  obtain ⟨n2, hn2⟩ := ny tol.length
  have HN2 := Ho hn2
  rw [hn2] at HA2 hC2
  have hc3 := hC2.1
  clear hn1 hn2 hC2
  go_enter Tryz.func77, Tryz.ntmps77
  go_wp2_with fail
  refine HA1.o.mono ?_
  rintro e w2 ⟨⟨a2, c2, rfl, hO⟩, h9⟩
  have HU2 := Ho h9
  have hcap := hO.o.stl.cap
  rw [HN1.o] at hcap
  obtain ⟨b, off, rfl, k0⟩ := hO.o.stl.cells 0 (by rw [HN1.o]; exact hn0)
  have HK2 := Ho (show w2.cell? ⟨b, off, none⟩ = some (.string A) from k0)
  clear h9 hO HA1 k0
  dsimp only
  go_wp2_with fail
  refine (HA2.o w2 HU2.o).mono ?_
  rintro e w3 ⟨⟨a3, c3, rfl, hO⟩, h9⟩
  have HU3 := Ho (HU2.o.trans h9)
  have c0 := h9.cell HK2.o
  have hcap3 := hO.o.stl.cap
  rw [HN2.o] at hcap3
  clear h9 hO HA2 HK2
  dsimp only
  have hn0z : (0 : Int) < (n1 : Int) := by omega
  by_cases hm : mi = 0
  · subst hm
    have HE := Ho (show rv = .error 5 by rw [← HR.o, if_pos (.inl rfl)])
    go_wp2
    go_ret2
    rw [HE.o]
    exact ⟨rfl, HU3.o⟩
  have hmz : (mi == 0) = false := by rw [beq_eq_false_iff_ne]; exact hm
  by_cases h1 : 1 < n1
  · have h1z : (1 : Int) < (n1 : Int) := by omega
    have HE := Ho (show rv = .error 5 by
     have hrn : r ≠ [] := by
      intro e
      have h2 := HN1.o
      rw [e, List.length_cons, List.length_nil] at h2
      omega
     rw [← HR.o, if_pos (.inr (.inl hrn))])
    clear hm
    go_wp2
    go_ret2
    rw [HE.o]
    exact ⟨rfl, HU3.o⟩
  have h1z : ¬ (1 : Int) < (n1 : Int) := by omega
  have hr : r = [] := by
   have h2 := HN1.o
   rw [List.length_cons] at h2
   exact List.length_eq_zero_iff.1 (by omega)
  have HSm := Ho (show ∀ w, Calls Tryz.prog 90 #[.string A] w fun e w' => e = .returned (.string ⟨(lws A.data.toList).toArray⟩) ∧ Up w w' from fun w => lowerL_walk A w (by omega))
  obtain ⟨nw, hnw⟩ := ny (⟨(lws A.data.toList).toArray⟩ : ByteArray)
  rw [hnw] at HSm
  have HNw := Ho (show nw.toList = lws A.data.toList by rw [Go.Lib.toList_data, ← hnw])
  clear hnw
  have hcd : ∀ x y : Bool, True := fun _ _ => trivial
  clear hcd
  go_wp2_with fail
  refine (HSm.o _).mono ?_
  rintro e w4 ⟨rfl, h9⟩
  have HU4 := Ho (HU3.o.trans h9)
  clear h9 HSm c0
  dsimp only
  by_cases hch : lws A.data.toList = chw.data.toList
  · have hz : (nw.toList == [99, 104, 117, 110, 107, 101, 100]) = true := by rw [HNw.o, hch]; rfl
    by_cases h2 : 0 < n2
    · have h2z : (0 : Int) < (n2 : Int) := by omega
      have HE := Ho (show rv = .error 5 by
       have htn : tol ≠ [] := by
        intro e
        have h3 := HN2.o
        rw [e, List.length_nil] at h3
        omega
       rw [← HR.o, if_pos (.inr (.inr (.inr htn)))])
      clear hm hr
      go_wp2
      go_ret2
      rw [HE.o]
      exact ⟨rfl, HU4.o⟩
    have h2z : ¬ (0 : Int) < (n2 : Int) := by omega
    have HE := Ho (show rv = .ok (-2) by
     have ht : tol = [] := List.length_eq_zero_iff.1 (by rw [HN2.o]; omega)
     rw [← HR.o, if_neg ?_]
     rintro (h | h | h | h)
     · exact hm h
     · exact h hr
     · exact h hch
     exact h ht)
    clear hm hr
    go_wp2
    go_ret2
    rw [HE.o]
    exact ⟨rfl, HU4.o⟩
  have hz : (nw.toList == [99, 104, 117, 110, 107, 101, 100]) = false := by
   rw [HNw.o, beq_eq_false_iff_ne]
   exact hch
  have HE := Ho (show rv = .error 5 by rw [← HR.o, if_pos (.inr (.inr (.inl hch)))])
  clear hm hr
  go_wp2
  go_ret2
  rw [HE.o]
  exact ⟨rfl, HU4.o⟩
 | nil =>
  clear hC1
  obtain ⟨n2, hn2⟩ := ny tol.length
  have HN2 := Ho hn2
  rw [hn2] at HA2 hC2
  obtain ⟨hc3, hc4⟩ := hC2
  have HM := Ho hc4
  clear hn2 hc4
  dsimp only [List.length_nil] at HA1
  go_enter Tryz.func77, Tryz.ntmps77
  go_wp2_with fail
  refine HA1.o.mono ?_
  rintro e w2 ⟨⟨a2, c2, rfl, hO⟩, h9⟩
  have HU2 := Ho h9
  clear h9 hO HA1
  dsimp only
  go_wp2_with fail
  refine (HA2.o w2 HU2.o).mono ?_
  rintro e w3 ⟨⟨a3, c3, rfl, hO⟩, h9⟩
  have HU3 := Ho (HU2.o.trans h9)
  have hcap3 := hO.o.stl.cap
  rw [HN2.o] at hcap3
  have HO3 := Ho hO.o.stl
  clear h9 hO HA2
  dsimp only
  by_cases h0 : n2 = 0
  · have h0z : ((n2 : Int) == 0) = true := by rw [h0]; rfl
    have ht : tol = [] := List.length_eq_zero_iff.1 (by rw [HN2.o]; exact h0)
    subst ht
    have HE := Ho (show rv = .ok (-1) from HR0.o.symm)
    clear h0 HR0
    go_wp2
    go_ret2
    rw [HE.o]
    exact ⟨rfl, HU3.o⟩
  have h0z : ((n2 : Int) == 0) = false := by rw [beq_eq_false_iff_ne]; omega
  by_cases h1 : 1 < n2
  · have h1z : (1 : Int) < (n2 : Int) := by omega
    have HE := Ho (show rv = .error 5 by
     rw [← HR0.o]
     match tol, HN2.o with
     | [], h => exact absurd h.symm h0
     | [x], h => simp at h; omega
     | _ :: _ :: _, _ => rfl)
    clear HR0
    go_wp2
    go_ret2
    rw [HE.o]
    exact ⟨rfl, HU3.o⟩
  have h1z : ¬ (1 : Int) < (n2 : Int) := by omega
  obtain ⟨S, rfl⟩ : ∃ S, tol = [S] := by
   match tol, HN2.o with
   | [], h => exact absurd h.symm h0
   | [x], _ => exact ⟨x, rfl⟩
   | _ :: _ :: _, h => simp at h; omega
  have hSz := HM.o S (by simp)
  have HRd := Ho (show rv = dgl S.data.toList from HR0.o.symm)
  obtain ⟨b, off, rfl, k0⟩ := HO3.o.cells 0 (by simp)
  have c0 : w3.cell? ⟨b, off, none⟩ = some (.string S) := k0
  have hp2 : 0 < n2 := by omega
  clear HR0 HM HO3 k0 HN2
  have HS := Ho (Go.Lib.size_eq S)
  obtain ⟨L, hL⟩ := ny S.data.toList
  have HLL := Ho hL
  rw [hL] at HS HRd
  clear hL
  have HG := Ho (show ∀ i (h : i < S.size), S[i] = L[i]'(by rw [← HS.o]; exact h) from fun i h => by
   have h1 := HLL.o
   subst h1
   rfl)
  go_wp2
  go_loopw [9] (fun v9 wr => ∃ i : Nat, v9 = .int .i64 (i : Int) ∧ i ≤ S.size ∧ Hd (Up w wr ∧ (L.take i).all isD = true)) (fun v9 _ => S.size - (intOf v9).toNat)
  case atStart => exact ⟨0, rfl, Nat.zero_le _, Ho ⟨HU3.o, rfl⟩⟩
  case round =>
   obtain ⟨i, rfl, hi, hU⟩ := hrel
   have HU := Ho hU.o
   clear hU
   by_cases hil : i < S.size
   · have hilz : (i : Int) < (S.size : Int) := by omega
     have hg := HG.o i hil
     have hiL : i < L.length := by rw [← HS.o]; exact hil
     have HT := Ho (List.take_succ_eq_append_getElem hiL)
     have HMm := Ho (List.getElem_mem hiL)
     generalize L[i]'(by rw [← HS.o]; exact hil) = x at *
     clear hiL
     go_wp2_with fail
     refine (Rdigit_walk x _).mono ?_
     rintro e w9 ⟨rfl, h9⟩
     obtain rfl := h9.symm
     clear h9
     dsimp only
     cases hd : isD x with
     | false =>
      have HE := Ho (show rv = .error 5 by
       rw [HRd.o]
       unfold dgl isN
       have : L.all isD = false := List.all_eq_false.2 ⟨x, HMm.o, by rw [hd]; simp⟩
       rw [show L.all TextNum.isD = L.all isD from rfl, this]
       rfl)
      go_wp2
      go_ret2
      rw [HE.o]
      exact ⟨rfl, HU.o.1⟩
     | true =>
      have HN := Ho (show (L.take (i + 1)).all isD = true by rw [HT.o, List.all_append, HU.o.2]; simp [hd])
      go_wp2
      go_roundw
      all_goals first
       | exact ⟨i + 1, by go_num, by omega, Ho ⟨HU.o.1, HN.o⟩⟩
       | (simp [intOf]; omega)
   have hilz : ¬ (i : Int) < (S.size : Int) := by omega
   have HAl := Ho (show L.all isD = true by
    have h1 := HU.o.2
    rw [List.take_of_length_le (by rw [← HS.o]; omega)] at h1
    exact h1)
   have HUr := Ho HU.o.1
   clear HU c0
   by_cases hz0 : S.size = 0
   · have hem := emp_yes hz0
     have HE := Ho (show rv = .error 5 by
      rw [HRd.o]
      have hL0 : L = [] := List.length_eq_zero_iff.1 (by rw [← HS.o]; exact hz0)
      rw [hL0]
      rfl)
     go_wp2
     go_ret2
     rw [HE.o]
     exact ⟨rfl, HUr.o⟩
   have hzp : 0 < S.size := by omega
   have hem := emp_no hzp
   have hg0 := HG.o 0 hzp
   have hpL : 0 < L.length := by rw [← HS.o]; exact hzp
   have HHd := Ho (show L.head? = some (L[0]) by cases L with | nil => simp at hpL | cons x r => rfl)
   generalize L[0]'(by rw [← HS.o]; exact hzp) = x0 at *
   by_cases hbad : 1 < S.size ∧ x0 = 48
   · obtain ⟨hb1, rfl⟩ := hbad
     have hb1z : (1 : Int) < (S.size : Int) := by omega
     have HE := Ho (show rv = .error 5 by
      rw [HRd.o]
      unfold dgl isN
      rw [HHd.o, decide_eq_false (show ¬ L.length = 1 by rw [← HS.o]; omega)]
      simp)
     go_wp2
     go_ret2
     rw [HE.o]
     exact ⟨rfl, HUr.o⟩
   have HisN := Ho (show isN L = true from isN_form HAl.o (List.length_pos_iff.1 hpL) (by
    rw [HHd.o, ← HS.o]
    rintro ⟨h3, h4⟩
    exact hbad ⟨h3, Option.some.inj h4⟩))
   have hcond : (¬ (1 : Int) < (S.size : Int)) ∨ ((1 : Int) < (S.size : Int) ∧ ((x0.toNat : Int) == 48) = false) := by
    by_cases h3 : 1 < S.size
    · right
      refine ⟨by omega, ?_⟩
      rw [beq_eq_false_iff_ne]
      intro e
      exact hbad ⟨h3, UInt8.toNat_inj.1 (by have : (48 : UInt8).toNat = 48 := rfl; omega)⟩
    left; omega
   clear hbad hpL
   rcases hcond with hq | ⟨hq, hq2⟩
   all_goals
    go_wp2
    go_loopw [10, 11] (fun v10 v11 wr => ∃ i k : Nat, v11 = .int .i64 (i : Int) ∧ v10 = .int .i64 (k : Int) ∧ i ≤ S.size ∧ k ≤ 1048576 ∧ Hd (Up w wr ∧ nv (L.take i) = k)) (fun _ v11 _ => S.size - (intOf v11).toNat)
    case atStart => exact ⟨0, 0, rfl, rfl, Nat.zero_le _, Nat.zero_le _, Ho ⟨HUr.o, rfl⟩⟩
    case round =>
     obtain ⟨i, k, rfl, rfl, hi, hk, hU⟩ := hrel
     have HU := Ho hU.o
     clear hU
     by_cases hil : i < S.size
     · have hilz : (i : Int) < (S.size : Int) := by omega
       have hg := HG.o i hil
       have hiL : i < L.length := by rw [← HS.o]; exact hil
       have HV := Ho (show nv (L.take (i + 1)) = 10 * k + ((L[i]).toNat - 48) by rw [List.take_succ_eq_append_getElem hiL, nv_snoc, HU.o.2])
       have hd := isD_nat (List.all_eq_true.1 HAl.o _ (List.getElem_mem hiL))
       generalize L[i]'(by rw [← HS.o]; exact hil) = x at *
       clear hiL
       have hw1 : IntKind.i64.wrap (10 * (k : Int)) = 10 * (k : Int) := wrapk _ (by omega) (by omega)
       have hw2 : IntKind.u8.wrap ((x.toNat : Int) - 48) = (x.toNat : Int) - 48 := wrapu8 _ (by omega) (by omega)
       have hw3 : IntKind.i64.wrap ((x.toNat : Int) - 48) = (x.toNat : Int) - 48 := wrapk _ (by omega) (by omega)
       have hw4 : IntKind.i64.wrap (10 * (k : Int) + ((x.toNat : Int) - 48)) = 10 * (k : Int) + ((x.toNat : Int) - 48) := wrapk _ (by omega) (by omega)
       by_cases hbig : 1048576 < 10 * k + (x.toNat - 48)
       · have hbz : (1048576 : Int) < 10 * (k : Int) + ((x.toNat : Int) - 48) := by omega
         have HE := Ho (show rv = .error 7 by
          rw [HRd.o]
          unfold dgl
          have h5 := nv_take L (i + 1)
          rw [HV.o] at h5
          rw [if_pos HisN.o, if_neg (by omega)])
         go_wp2
         go_ret2
         rw [HE.o]
         exact ⟨rfl, HU.o.1⟩
       have hbz : ¬ (1048576 : Int) < 10 * (k : Int) + ((x.toNat : Int) - 48) := by omega
       go_wp2
       go_roundw
       all_goals first
        | exact ⟨i + 1, 10 * k + (x.toNat - 48), by go_num, by simp only [Value.int.injEq, true_and]; omega, by omega, by omega, Ho ⟨HU.o.1, HV.o⟩⟩
        | (simp [intOf]; omega)
     have hilz : ¬ (i : Int) < (S.size : Int) := by omega
     have HE := Ho (show rv = .ok (k : Int) by
      have h1 := HU.o.2
      rw [List.take_of_length_le (by rw [← HS.o]; omega)] at h1
      rw [HRd.o]
      unfold dgl
      rw [if_pos HisN.o, h1, if_pos hk])
     go_wp2
     go_ret2
     rw [HE.o]
     exact ⟨rfl, HU.o.1⟩
theorem any_snoc {α : Type} (p : α → Bool) (l : List α) (x : α) : (l ++ [x]).any p = (l.any p || p x) := by simp
set_option maxRecDepth 100000 in
set_option maxHeartbeats 4000000 in
theorem Rcloses_walk (a : Option Addr) (fs : List FD) (c : Nat) (mi : Int) (w : World) (h : FdL w a fs c) (hl : szs fs ≤ 1048576) :
  Calls Tryz.prog 79 #[.slice a fs.length c, .int .i64 mi] w fun e w' => e = .returned (.bool (cls (mi == 0) fs)) ∧ Up w w' := by
 have HA := Ho (Rall_walk a fs c coN w h (by omega))
 have hC := alv_small (nm := coN) hl
 obtain ⟨rv, hrv⟩ := ny (cls (mi == 0) fs)
 have HR := Ho (cls_ref (mi == 0) fs)
 rw [hrv] at HR ⊢
 clear hrv h hl
 unfold cwd at HR
 generalize alv fs coN = vv at *
 unfold coN at HA
 obtain ⟨n, hn⟩ := ny vv.length
 have HN := Ho hn
 rw [hn] at HA hC
 obtain ⟨hc1, hc2⟩ := hC
 have HM := Ho hc2
 clear hn hc2
 go_enter Tryz.func79, Tryz.ntmps79
 go_wp2_with fail
 refine HA.o.mono ?_
 rintro e w2 ⟨⟨a2, c2, rfl, hO⟩, h9⟩
 have HU2 := Ho h9
 have HS := Ho hO.o.stl
 have hcap := hO.o.stl.cap
 rw [HN.o] at hcap
 clear hO h9 HA
 dsimp only
 go_wp2
 go_loopw [5, 6, 8] (fun v5 v6 v8 wr => ∃ (i : Nat) (sh kp : Bool), v8 = .int .i64 (i : Int) ∧ v5 = .bool sh ∧ v6 = .bool kp ∧ i ≤ n ∧ Hd (Up w2 wr ∧ ((vv.take i).flatMap fun v => pcs 44 v.data.toList).any cld = sh ∧ ((vv.take i).flatMap fun v => pcs 44 v.data.toList).any kpa = kp)) (fun _ _ v8 _ => n - (intOf v8).toNat)
 case atStart => exact ⟨0, false, false, rfl, rfl, rfl, Nat.zero_le _, Ho ⟨Up.refl _, rfl, rfl⟩⟩
 case round =>
  obtain ⟨i, sh, kp, rfl, rfl, rfl, hi, hU⟩ := hrel
  have HU := Ho hU.o
  clear hU
  by_cases hil : i < n
  · have hilz : (i : Int) < (n : Int) := by omega
    have hil2 : i < vv.length := by rw [HN.o]; exact hil
    obtain ⟨b, off, rfl, k1⟩ := HS.o.cells i hil2
    have HT := Ho (show ((vv.take (i + 1)).flatMap fun v => pcs 44 v.data.toList) = ((vv.take i).flatMap fun v => pcs 44 v.data.toList) ++ pcs 44 vv[i].data.toList by
     rw [List.take_succ_eq_append_getElem hil2, List.flatMap_append]
     simp)
    have hvz := HM.o _ (List.getElem_mem hil2)
    generalize vv[i] = v at *
    generalize hD : ((vv.take i).flatMap fun v => pcs 44 v.data.toList) = D at *
    generalize hD2 : ((vv.take (i + 1)).flatMap fun v => pcs 44 v.data.toList) = D2 at *
    have c1 := HU.o.1.cell k1
    clear k1 hD
    have HP := Ho (Rpieces_walk v 44 (by omega) wr)
    have HPs := Ho (pcs_small 44 v.data.toList)
    have hpl := pcs_len 44 v.data.toList
    have hvs := Go.Lib.size_eq v
    rw [← hvs] at HPs hpl
    generalize pcs 44 v.data.toList = ps at *
    obtain ⟨m, hm⟩ := ny ps.length
    have HMm := Ho hm
    rw [hm] at HP hpl
    clear hm hvs
    go_wp2_with fail
    refine HP.o.mono ?_
    rintro e w3 ⟨⟨a3, c3, rfl, hO⟩, h9⟩
    have HU3 := Ho (HU.o.1.trans h9)
    have HS3 := Ho hO.o.stl
    have hcap3 := hO.o.stl.cap
    rw [bts_len, HMm.o] at hcap3
    have HD := Ho HU.o.2
    clear hO h9 HP HU c1
    dsimp only
    go_wp2
    go_loopw [5, 6, 10] (fun v5 v6 v10 wr2 => ∃ (j : Nat) (sh2 kp2 : Bool), v10 = .int .i64 (j : Int) ∧ v5 = .bool sh2 ∧ v6 = .bool kp2 ∧ j ≤ m ∧ Hd (Up w3 wr2 ∧ (D ++ ps.take j).any cld = sh2 ∧ (D ++ ps.take j).any kpa = kp2)) (fun _ _ v10 _ => m - (intOf v10).toNat)
    case atStart => exact ⟨0, sh, kp, rfl, rfl, rfl, Nat.zero_le _, Ho ⟨Up.refl _, by rw [List.take_zero, List.append_nil]; exact HD.o.1, by rw [List.take_zero, List.append_nil]; exact HD.o.2⟩⟩
    case round =>
     obtain ⟨j, sh2, kp2, rfl, rfl, rfl, hj, hU4⟩ := hrel
     have HU4 := Ho hU4.o
     clear hU4
     by_cases hjl : j < m
     · have hjlz : (j : Int) < (m : Int) := by omega
       have hj2 : j < ps.length := by rw [HMm.o]; exact hjl
       obtain ⟨b3, off3, rfl, k3⟩ := HS3.o.cells j (by rw [bts_len]; exact hj2)
       have e1 : (bts ps)[j]'(by rw [bts_len]; exact hj2) = ⟨ps[j].toArray⟩ := by simp [bts]
       rw [e1] at k3
       have HT2 := Ho (show D ++ ps.take (j + 1) = (D ++ ps.take j) ++ [ps[j]] by rw [List.take_succ_eq_append_getElem hj2, List.append_assoc])
       have hpz := HPs.o _ (List.getElem_mem hj2)
       generalize ps[j] = x at *
       obtain ⟨X, hX⟩ := ny (⟨x.toArray⟩ : ByteArray)
       have HX := Ho (show X.data.toList = x by rw [← hX])
       have hXz : X.size ≤ 1048576 := by rw [Go.Lib.size_eq, HX.o]; omega
       rw [hX] at k3
       have c3 := HU4.o.1.cell k3
       clear hX k3 e1 hj2
       have HTr := Ho (Rtrim_walk X (by omega) wr)
       rw [HX.o] at HTr
       have hTl := trm_len x
       obtain ⟨Y, hY⟩ := ny (⟨(trm x).toArray⟩ : ByteArray)
       have HY := Ho (show Y.data.toList = trm x by rw [← hY])
       have hYz : Y.size ≤ 1048576 := by rw [Go.Lib.size_eq, HY.o]; omega
       have hvY : vs (trm x) = .string Y := by rw [← hY]
       rw [hvY] at HTr
       clear hY hvY
       go_wp2_with fail
       refine HTr.o.mono ?_
       rintro e w5 ⟨rfl, h9⟩
       obtain rfl := h9.symm
       clear h9 HTr
       dsimp only
       have HSm := Ho (lowerL_walk Y wr (by omega))
       rw [HY.o] at HSm
       obtain ⟨Z, hZ⟩ := ny (⟨(lws (trm x)).toArray⟩ : ByteArray)
       have HZ := Ho (show Z.toList = lws (trm x) by rw [Go.Lib.toList_data, ← hZ])
       rw [hZ] at HSm
       clear hZ
       go_wp2_with fail
       refine HSm.o.mono ?_
       rintro e w6 ⟨rfl, h9⟩
       have HU6 := Ho (HU4.o.1.trans h9)
       clear h9 HSm c3
       dsimp only
       have HC := Ho (show (Z.toList == [99, 108, 111, 115, 101]) = cld x by rw [HZ.o]; rfl)
       have HK := Ho (show (Z.toList == [107, 101, 101, 112, 45, 97, 108, 105, 118, 101]) = kpa x by rw [HZ.o]; rfl)
       have HA4 := Ho (show (D ++ ps.take (j + 1)).any cld = (sh2 || cld x) by rw [HT2.o, any_snoc, HU4.o.2.1])
       have HB4 := Ho (show (D ++ ps.take (j + 1)).any kpa = (kp2 || kpa x) by rw [HT2.o, any_snoc, HU4.o.2.2])
       clear HT2 HU4
       obtain ⟨b1, hb1⟩ := ny (cld x)
       obtain ⟨b2, hb2⟩ := ny (kpa x)
       rw [hb1] at HC HA4
       rw [hb2] at HK HB4
       have z1 := HC.o
       have z2 := HK.o
       clear hb1 hb2 HC HK
       cases sh2 <;> cases kp2
       all_goals
        go_wp2
        go_roundw
        all_goals first
         | exact ⟨j + 1, _, _, by go_num, rfl, rfl, by omega, Ho ⟨HU6.o, by rw [HA4.o]; simp, by rw [HB4.o]; simp⟩⟩
         | (simp [intOf]; omega)
     have hjlz : ¬ (j : Int) < (m : Int) := by omega
     have HF := Ho (show D2.any cld = sh2 ∧ D2.any kpa = kp2 by
      have h1 := HU4.o.2
      rw [List.take_of_length_le (by rw [HMm.o]; omega), ← HT.o] at h1
      exact h1)
     have HU7 := Ho (HU3.o.trans HU4.o.1)
     clear HU4
     go_wp2
     go_roundw
     all_goals first
      | exact ⟨i + 1, sh2, kp2, by go_num, rfl, rfl, by omega, Ho ⟨HU7.o, by rw [hD2]; exact HF.o.1, by rw [hD2]; exact HF.o.2⟩⟩
      | (simp [intOf]; omega)
  have hilz : ¬ (i : Int) < (n : Int) := by omega
  have HE := Ho (show rv = (sh || ((mi == 0) && !kp)) by
   have h1 := HU.o.2
   rw [List.take_of_length_le (by rw [HN.o]; omega)] at h1
   rw [HR.o, h1.1, h1.2])
  have HU8 := Ho (HU2.o.trans HU.o.1)
  clear HU HR
  cases hm : (mi == 0)
  all_goals
   rw [hm] at HE
   cases sh <;> cases kp
   all_goals
    go_wp2
    go_ret
    rw [HE.o]
    exact ⟨rfl, HU8.o⟩
def zf : List Value := [.string ⟨#[]⟩, .string ⟨#[]⟩]
theorem cell_lt {w : World} {b o : Nat} {v : Value} (h : w.cell? ⟨b, o, none⟩ = some v) : b < w.heap.size := by
 rcases Nat.lt_or_ge b w.heap.size with h' | h'
 · exact h'
 simp [World.cell?, Array.getElem?_eq_none h'] at h
theorem okl_no {l : List UInt8} (h : (58 : UInt8) ∉ l) : okl l = false := by
 rcases cut_cases 58 l with ⟨_, hc⟩ | ⟨a, b, hn, rfl, hc⟩
 · unfold okl; rw [hc]; rfl
 exact absurd (by simp) h
theorem okl_at {a : List UInt8} (b : List UInt8) (h : (58 : UInt8) ∉ a) : okl (a ++ 58 :: b) = (tok a && vlu b) ∧ fll (a ++ 58 :: b) = ⟨⟨a.toArray⟩, ⟨(trm b).toArray⟩⟩ := by
 rcases cut_cases 58 (a ++ 58 :: b) with ⟨hn, hc⟩ | ⟨a', b', hn, e, hc⟩
 · exact absurd (by simp) hn
 have h1 := pcs_cut b h
 rw [e, pcs_cut b' hn] at h1
 injection h1 with h1 _
 subst h1
 have h2 := List.append_cancel_left e
 injection h2 with _ h2
 subst h2
 unfold okl fll c1 c2
 rw [hc]
 exact ⟨rfl, rfl⟩
theorem StO.ge {w : World} {N : Nat} {b off : Nat} {ss : List ByteArray} {n c : Nat} (h : w.ownsRow N 9 1 (.slice (some ⟨b, off, none⟩) n c) n (ss.map Value.string)) : N ≤ b := by
 rcases h.2 with ⟨e, _⟩ | ⟨g, cap, cur, e, hg, _⟩
 · cases e
 injection e with e1 _ _
 injection e1 with e1
 injection e1 with e1 _ _
 rw [e1]
 exact hg
set_option maxRecDepth 100000 in
set_option maxHeartbeats 4000000 in
theorem RfieldLine_walk (s : ByteArray) (hs : s.size ≤ 1048576) (w : World) : Calls Tryz.prog 121 #[.string s] w fun e w' => (∃ n v, e = .returned (.tuple #[.agg #[.string n, .string v], .bool (okl s.data.toList)]) ∧ Hd (okl s.data.toList = true → (⟨n, v⟩ : FD) = fll s.data.toList)) ∧ Up w w' := by
 have HS := Ho (Go.Lib.size_eq s)
 have HA0 := Ho (at_new w 102 zf)
 have HU0 := Ho ((Up.refl w).alloc (.cells zf.toArray 102))
 have HSz := Ho (alloc_size w (.cells zf.toArray 102))
 have HPc := Ho (Rpieces_walk s 58 (by omega) (w.alloc (.cells zf.toArray 102)))
 rcases cut_cases 58 s.data.toList with ⟨hn, _⟩ | ⟨a, b, hn, hab, _⟩
 · have HE := Ho (okl_no hn)
   rw [pcs_no hn] at HPc
   go_enter Tryz.func121, Tryz.ntmps121
   go_wp2_with fail
   change Calls _ _ _ (w.alloc (.cells zf.toArray 102)) _
   generalize w.alloc (.cells zf.toArray 102) = w1 at *
   refine HPc.o.mono ?_
   rintro e w2 ⟨⟨a2, c2, rfl, hO⟩, h9⟩
   have HU2 := Ho (HU0.o.trans h9)
   have HA2 := Ho (HA0.o.up h9)
   clear h9 HPc hO
   dsimp only [List.length_cons, List.length_nil, Nat.zero_add]
   go_wp2_with (with_reducible refine sS 102 ?_)
   show wpList _ _ _ _ _ _
   refine wpList_store_at rfl 102 _ _ rfl (w.heap.size) HA2.o zf rfl rfl rfl (by kernel_rfl) (by kernel_rfl) ?_
   intro w8 hA8 hg8
   have HA8 := Ho hA8
   have HU8 := Ho (HU2.o.bz hg8)
   clear hA8 hg8
   simp only [Act.put]
   repeat go_step
   refine bodyPost_ret (result_cell_tmp Tryz.results121 _ _ (w.heap.size) zf _ rfl rfl HA8.o.range Tryz.underlying102 rfl (by kernel_rfl)) rfl ?_
   refine ⟨⟨⟨#[]⟩, ⟨#[]⟩, by rw [HE.o]; rfl, Ho (fun h => absurd h (by rw [HE.o]; simp))⟩, HU8.o⟩
 have HE0 := Ho (okl_at b hn)
 rw [hab, pcs_cut b hn] at HPc
 rw [← hab] at HE0
 obtain ⟨L, hL⟩ := ny s.data.toList
 rw [hL] at HE0 ⊢
 clear hL
 obtain ⟨n, hnn⟩ := ny ((a :: pcs 58 b).length)
 have hn2 : 2 ≤ n := by
  rw [← hnn, List.length_cons]
  have := List.length_pos_iff.2 (pcs_ne 58 b)
  omega
 have HSb := Ho (show ∀ w a2 c2, StO w (Nat.succ 0) a2 (bts (a :: pcs 58 b)) c2 → True from fun _ _ _ _ => trivial)
 rw [hnn] at HPc
 have HNn := Ho (show (bts (a :: pcs 58 b)).length = n by rw [bts_len]; exact hnn)
 have HB0 := Ho (show (bts (a :: pcs 58 b)) = ⟨a.toArray⟩ :: bts (pcs 58 b) from rfl)
 clear hnn HSb
 go_enter Tryz.func121, Tryz.ntmps121
 go_wp2_with fail
 change Calls _ _ _ (w.alloc (.cells zf.toArray 102)) _
 generalize w.alloc (.cells zf.toArray 102) = w1 at *
 refine HPc.o.mono ?_
 rintro e w2 ⟨⟨a2, c2, rfl, hO⟩, h9⟩
 have HU2 := Ho (HU0.o.trans h9)
 have HA2 := Ho (HA0.o.up h9)
 obtain ⟨b0, off, rfl, k0⟩ := hO.o.stl.cells 0 (by rw [HNn.o]; omega)
 have hcap := hO.o.stl.cap
 rw [HNn.o] at hcap
 have hb0 : b0 ≠ w.heap.size := by
  have h1 := StO.ge hO.o
  rw [HSz.o] at h1
  omega
 have k0' : w2.cell? ⟨b0, off, none⟩ = some (.string ⟨a.toArray⟩) := by
  simp only [HB0.o] at k0
  exact k0
 have HK2 := Ho k0'
 clear h9 HPc hO k0 k0' HB0 HNn
 dsimp only
 obtain ⟨A, hA⟩ := ny (⟨a.toArray⟩ : ByteArray)
 have HAl := Ho (show A.data.toList = a by rw [← hA])
 have HAz := Ho (show A.size = a.length by rw [Go.Lib.size_eq, HAl.o])
 have HLn := Ho (show s.data.toList.length = a.length + 1 + b.length by rw [hab, List.length_append, List.length_cons]; omega)
 have hAs : A.size + 1 ≤ s.size := by rw [HS.o, HLn.o, HAz.o]; omega
 have HVb := Ho (show (s.extract (A.size + 1) s.size).data.toList = b by
  rw [extr_drop, hab, HAz.o, List.drop_append]
  simp)
 rw [hA] at HK2 HE0
 have HTk := Ho (show ∀ w, Calls Tryz.prog 46 #[.string A] w fun e w' => e = .returned (.bool (tok a)) ∧ Up w w' from fun w => by
  have h := Rtoken_walk A (by omega) w
  rw [HAl.o] at h
  exact h)
 obtain ⟨V, hV⟩ := ny (s.extract (A.size + 1) s.size : ByteArray)
 rw [hV] at HVb
 have hVz : V.size ≤ s.size := by rw [← hV, ByteArray.size_extract]; omega
 obtain ⟨B, hB⟩ := ny (⟨(trm b).toArray⟩ : ByteArray)
 rw [hB] at HE0
 have HTr := Ho (show ∀ w, Calls Tryz.prog 91 #[.string V] w fun e w' => e = .returned (.string B) ∧ w' = w from fun w => by
  have h := Rtrim_walk V (by omega) w
  rw [HVb.o] at h
  rw [← hB]
  exact h)
 have HVl := Ho (show ∀ w, Calls Tryz.prog 95 #[.string V] w fun e w' => e = .returned (.bool (vlu b)) ∧ Up w w' from fun w => by
  have h := Rvalued_walk V (by omega) w
  rw [HVb.o] at h
  exact h)
 have hn2z : ¬ (n : Int) < 2 := by omega
 have hnp : 0 < n := by omega
 have hnpz : (0 : Int) < (n : Int) := by omega
 have c0 := HK2.o
 clear hA hB hab HAl HLn HVb
 clear HS
 go_wp2_with fail
 refine (HTk.o _).mono ?_
 rintro e w3 ⟨rfl, h9⟩
 have HU3 := Ho (HU2.o.trans h9)
 have HA3 := Ho (HA2.o.up h9)
 have HK3 := Ho (h9.cell HK2.o)
 clear h9 HTk c0
 dsimp only
 cases htk : tok a with
 | false =>
  have HE := Ho (show okl L = false by rw [HE0.o.1, htk]; rfl)
  go_wp2_with (with_reducible refine sS 102 ?_)
  show wpList _ _ _ _ _ _
  refine wpList_store_at rfl 102 _ _ rfl (w.heap.size) HA3.o zf rfl rfl rfl (by kernel_rfl) (by kernel_rfl) ?_
  intro w8 hA8 hg8
  have HA8 := Ho hA8
  have HU8 := Ho (HU3.o.bz hg8)
  clear hA8 hg8
  simp only [Act.put]
  repeat go_step
  refine bodyPost_ret (result_cell_tmp Tryz.results121 _ _ (w.heap.size) zf _ rfl rfl HA8.o.range Tryz.underlying102 rfl (by kernel_rfl)) rfl ?_
  refine ⟨⟨⟨#[]⟩, ⟨#[]⟩, by rw [HE.o]; rfl, Ho (fun h => absurd h (by rw [HE.o]; simp))⟩, HU8.o⟩
 | true =>
  have HRb := Ho (show okl L = vlu b by rw [HE0.o.1, htk]; rfl)
  have HRf := Ho (show (⟨A, B⟩ : FD) = fll L from HE0.o.2.symm)
  generalize vlu b = bv at *
  have c0 := HK3.o
  have hAz : (A.size : Int) + 1 ≤ (s.size : Int) := by omega
  go_wp2
  refine wp_region_held_drew (S := fun w5 => (∃ cs, cs.length = 2 ∧ At w5 w.heap.size 102 cs) ∧ w5.cell? ⟨b0, off, none⟩ = some (.string A) ∧ Up w w5) (by kernel_rfl) ⟨⟨zf, rfl, HA3.o.up (Up.refl _).drew⟩, (Up.refl _).drew.cell HK3.o, HU3.o.drew⟩ (fun hS => ?_)
  refine tN 0 (some 26) (.move (.tmp 4)) 25 (.slice (some ⟨b0, off, none⟩) n c2) hS ?_
  simp only [Act.put, pB, pC, pD]
  refine tN 1 (some 27) (.indexAddr 25 (.tmp 26) (.const (.int .i64 0))) 0 (.pointer (some ⟨b0, off, none⟩)) hS ?_
  simp only [pA, pB, pC, pD]
  refine tK 2 (some 28) (.load 9 (.tmp 27)) 9 (.string A) hS ?_ ?_
  · intro _ _ w5 hSw
    have h0 := hSw.2.1
    clear hSw hS
    go_simp
  simp only [pA, pB, pC, pD]
  refine tN 3 (some 29) (.move (.tmp 5)) 9 (.string V) hS ?_
  simp only [pA, pB, pC, pD]
  refine tN 6 (some 32) (.move (.tmp 5)) 9 (.string V) hS ?_
  simp only [pA, pB, pC, pD]
  refine rD 4 (some 30) (.call ⟨.value (.func 91), #[.tmp 29], #[9]⟩) 9 fun _ _ K hK => ?_
  rw [if_pos (by kernel_rfl)]
  go_simp
  refine (HTr.o w3.drew).mono ?_
  rintro e w6 ⟨rfl, h9⟩
  obtain rfl := h9.symm
  clear h9
  dsimp only
  refine hK.out _ _ hS (fun hS => ?_)
  clear hK K
  refine tN 5 (some 31) (.build 102 #[(0, .tmp 28), (1, .tmp 30)]) 102 (.agg #[.string A, .string B]) hS ?_
  simp only [Act.put, pB, pC, pD]
  refine rD 7 (some 33) (.call ⟨.value (.func 95), #[.tmp 32], #[9]⟩) 4 fun _ _ K hK => ?_
  rw [if_pos (by kernel_rfl)]
  go_simp
  refine (HVl.o w3.drew).mono ?_
  rintro e w7 ⟨rfl, h9⟩
  have HU7 := Ho (HU3.o.drew.trans h9)
  have HA7 := Ho ((HA3.o.up (Up.refl _).drew).up h9)
  have HK7 := Ho (h9.cell ((Up.refl w3).drew.cell HK3.o))
  clear h9
  dsimp only
  refine hK.out _ _ ⟨⟨zf, rfl, HA7.o⟩, HK7.o, HU7.o⟩ (fun hS => ?_)
  clear hK K
  refine rD 8 none (.store 102 (.tmp 2) (.tmp 31)) 0 fun _ _ K hK => oper_of_list ?_
  refine wpList_store_at rfl 102 _ _ rfl (w.heap.size) HA7.o [.string A, .string B] rfl rfl rfl (by kernel_rfl) (by kernel_rfl) ?_
  intro w8 hA8 hg8
  have HA8 := Ho hA8
  have HU8 := Ho (HU7.o.bz hg8)
  have HK8 := Ho (show w8.cell? ⟨b0, off, none⟩ = some (.string A) from (hg8.cell_far _ (cell_lt HK7.o) (fun e => hb0 (Option.some.inj e))).trans HK7.o)
  clear hA8 hg8
  refine hK.out _ _ ⟨⟨_, rfl, HA8.o⟩, HK8.o, HU8.o⟩ (fun hS => ?_)
  clear hK K
  refine tN 9 (some 3) (.assign (.tmp 33)) 4 (.bool bv) hS ?_
  simp only [Act.put, pB, pC, pD]
  clear hS
  refine wpAnyH_done (by kernel_rfl) ?_ _
  repeat go_step
  refine bodyPost_ret (result_cell_tmp Tryz.results121 _ _ (w.heap.size) [.string A, .string B] _ rfl rfl HA8.o.range Tryz.underlying102 rfl (by kernel_rfl)) rfl ?_
  refine ⟨⟨A, B, by rw [HRb.o]; rfl, Ho (fun _ => HRf.o)⟩, HU8.o⟩
def FsR (w w' : World) (e : Ending) : Er (List FD) → Prop
 | .error k => ∃ a2 n2 c2, e = .returned (.tuple #[.slice a2 n2 c2, .int .i64 (nums k)])
 | .ok fs => ∃ a2 c2, e = .returned (.tuple #[.slice a2 fs.length c2, .int .i64 0]) ∧ Hd (RfO w' w.heap.size a2 fs c2)
set_option maxRecDepth 100000 in
set_option maxHeartbeats 4000000 in
theorem Rfields_walk (a : Option Addr) (ls : List (List UInt8)) (c : Nat) (w : World) (h : StL w a (bts ls) c) (hl : ls.length ≤ 1048576) (hs : ∀ x ∈ ls, x.length ≤ 1048576) :
  Calls Tryz.prog 76 #[.slice a ls.length c] w fun e w' => FsR w w' e (rfd ls) ∧ Up w w' := by
 have HF := Ho h
 have hcap := h.cap
 rw [bts_len] at hcap
 have HM := Ho hs
 clear h hs
 obtain ⟨rv, hrv⟩ := ny (rfd ls)
 have HR := Ho hrv
 rw [hrv]
 clear hrv
 by_cases h64 : 64 < ls.length
 · have h64z : (64 : Int) < (ls.length : Int) := by omega
   have HE := Ho (show rv = .error 1 by rw [← HR.o]; unfold rfd; rw [if_pos h64])
   go_enter Tryz.func76, Tryz.ntmps76
   go_wp2
   go_ret2
   rw [HE.o]
   exact ⟨⟨none, 0, 0, rfl⟩, Up.refl _⟩
 have h64z : ¬ (64 : Int) < (ls.length : Int) := by omega
 have HR2 := Ho (show rv = if ls.all okl = true then .ok (ls.map fll) else .error 5 by rw [← HR.o]; unfold rfd; rw [if_neg h64])
 go_enter Tryz.func76, Tryz.ntmps76
 go_wp2
 go_loopw [4, 5] (fun v4 v5 wr => ∃ i : Nat, v5 = .int .i64 (i : Int) ∧ i ≤ ls.length ∧ ∃ a7 c7, v4 = .slice a7 i c7 ∧ Hd (RfO wr w.heap.size a7 ((ls.take i).map fll) c7 ∧ Up w wr ∧ (ls.take i).all okl = true)) (fun _ v5 _ => ls.length - (intOf v5).toNat)
 case atStart => exact ⟨0, rfl, Nat.zero_le _, none, 0, rfl, Ho ⟨World.ownsRow_nil _ _ _ _, Up.refl _, rfl⟩⟩
 case round =>
  obtain ⟨i, rfl, hi, a7, c7, rfl, hU⟩ := hrel
  have HQ := Ho hU.o
  clear hU
  by_cases hil : i < ls.length
  · have hilz : (i : Int) < (ls.length : Int) := by omega
    obtain ⟨b, off, rfl, k1⟩ := HF.o.cells i (by rw [bts_len]; exact hil)
    have k2 := HQ.o.2.1.cell k1
    have HT := Ho (List.take_succ_eq_append_getElem hil)
    have hxz := HM.o _ (List.getElem_mem hil)
    have HFl := Ho (show okl ls[i] = false → rv = .error 5 from fun hb => by
     rw [HR2.o]
     have : ls.all okl = false := List.all_eq_false.2 ⟨_, List.getElem_mem hil, by rw [hb]; simp⟩
     rw [this]
     rfl)
    have e1 : (bts ls)[i]'(by rw [bts_len]; exact hil) = ⟨ls[i].toArray⟩ := by simp [bts]
    rw [e1] at k2
    clear k1 e1
    generalize ls[i] = x at *
    have HLn := Ho (show ((ls.take i).map fll).length = i by rw [List.length_map, List.length_take]; omega)
    have HC := Ho (RfieldLine_walk ⟨x.toArray⟩ (by show x.toArray.size ≤ _; simpa using hxz) wr)
    rw [show (⟨x.toArray⟩ : ByteArray).data.toList = x from rfl] at HC
    generalize hX : (⟨x.toArray⟩ : ByteArray) = X at *
    clear hX hxz
    go_wp2_with fail
    refine HC.o.mono ?_
    rintro e w4 ⟨⟨fn, fv, rfl, hfv⟩, h9⟩
    have HFv := Ho hfv.o
    have HU4 := Ho (HQ.o.2.1.trans h9)
    have HO4 := Ho (ow_up HQ.o.1 h9)
    have HAl4 := Ho HQ.o.2.2
    clear h9 hfv HC HQ k2
    dsimp only
    have HA5 := Ho (at_new w4 102 zf)
    have HU5 := Ho ((Up.refl w4).alloc (.cells zf.toArray 102))
    go_wp2_with (with_reducible refine sS 102 ?_)
    show wpList _ _ _ _ _ _
    refine wpList_store_at rfl 102 _ _ rfl (w4.heap.size) HA5.o [.string fn, .string fv] rfl rfl rfl (by kernel_rfl) (by kernel_rfl) ?_
    intro w8 hA8 hg8
    have HA8 := Ho hA8
    have HU8 := Ho (HU5.o.bz hg8)
    clear hA8 hg8 HA5 HU5
    simp only [Act.put]
    cases hok : okl x with
    | false =>
     have HE := Ho (HFl.o hok)
     go_wp2
     go_ret2
     rw [HE.o]
     exact ⟨⟨a7, i, c7, rfl⟩, HU4.o.trans HU8.o⟩
    | true =>
     have HFf := Ho (HFv.o hok)
     have HAl8 := Ho (show (ls.take (i + 1)).all okl = true by rw [HT.o, List.all_append, HAl4.o]; simp [hok])
     clear hok HFl
     go_wp2_with (with_reducible refine sL 102 ?_)
     show wpList _ _ _ _ _ _
     refine wpList_load_mid rfl _ _ rfl w4.heap.size 0 rfl [.string fn, .string fv] _ HA8.o.range Tryz.underlying102 rfl (by kernel_rfl) ?_
     simp only [Act.put, pB, pC, pD]
     go_wp2_with (with_reducible refine sA ?_)
     show wpList _ _ _ _ _ _
     refine wpList_appRf (w := w8) (N := w.heap.size) rfl _ _ rfl a7 c7 _ (⟨fn, fv⟩ : FD) HLn.o rfl rfl (ow_up HO4.o HU8.o) (HU4.o.trans HU8.o).size (by omega) ?_
     intro ax2 cx2 w7 o7 u7 g7
     have HO7 := Ho (show RfO w7 w.heap.size ax2 ((ls.take (i + 1)).map fll) cx2 by rw [HT.o, List.map_append, List.map_singleton, ← HFf.o]; exact o7)
     have HU7 := Ho (u7 w (HU4.o.trans HU8.o) (Nat.le_refl _))
     clear o7 u7 g7
     simp only [Act.put, pB, pC, pD]
     go_wp2
     go_roundw
     all_goals first
      | exact ⟨i + 1, by go_num, by omega, ax2, cx2, rfl, Ho ⟨HO7.o, HU7.o, HAl8.o⟩⟩
      | (simp [intOf]; omega)
  have hilz : ¬ (i : Int) < (ls.length : Int) := by omega
  have HE := Ho (show rv = .ok (ls.map fll) by
   have h1 := HQ.o.2.2
   rw [List.take_of_length_le (by omega)] at h1
   rw [HR2.o, if_pos h1])
  have HO8 := Ho (show RfO wr w.heap.size a7 (ls.map fll) c7 by
   have h1 := HQ.o.1
   rw [List.take_of_length_le (by omega)] at h1
   exact h1)
  have HL8 := Ho (show (ls.map fll).length = i by rw [List.length_map]; omega)
  go_wp2
  go_ret2
  rw [HE.o]
  exact ⟨⟨a7, c7, by rw [HL8.o]; rfl, HO8⟩, HQ.o.2.1⟩
def hxs (n : Nat) : List UInt8 → Option Nat
 | [] => some n
 | x :: r => match hxv x with
   | none => none
   | some v => hxs (16 * n + v.toNat) r
theorem hxs_snoc (n : Nat) : ∀ (l : List UInt8) (x : UInt8), hxs n (l ++ [x]) = match hxs n l with
  | none => none
  | some m => match hxv x with
    | none => none
    | some v => some (16 * m + v.toNat)
 | [], x => by
  simp only [List.nil_append, hxs]
 | y :: l, x => by
  rw [List.cons_append]
  simp only [hxs]
  cases hxv y with
  | none => rfl
  | some v => exact hxs_snoc _ l x
theorem hxv_vlc {x : UInt8} (h : (hxv x).isSome = true) : vlc x = true := by
 have key : ∀ n : Nat, n < 256 → (hxv (UInt8.ofNat n)).isSome = true → vlc (UInt8.ofNat n) = true := by decide +kernel
 have h1 := key x.toNat x.toNat_lt
 rw [UInt8.ofNat_toNat] at h1
 exact h1 h
theorem csl_hxs : ∀ (z : List UInt8) (d n : Nat) (t : List UInt8), (59 : UInt8) ∉ z → (t = [] ∨ ∃ r, t = 59 :: r) → d ≤ 8 → csl d n (z ++ t) = if 8 < d + z.length then .error 8 else match hxs n z with | none => .error 8 | some m => .ok (d + z.length, m)
 | [], d, n, t, _, ht, hd => by
  rw [if_neg (by simp; omega)]
  rcases ht with rfl | ⟨r, rfl⟩
  · rfl
  simp [csl, hxs]
 | x :: z, d, n, t, hz, ht, hd => by
  have hx : x ≠ 59 := fun e => hz (by simp [e])
  have hz2 : (59 : UInt8) ∉ z := fun e => hz (by simp [e])
  rw [List.cons_append]
  simp only [csl, if_neg hx, hxs, List.length_cons]
  cases hv : hxv x with
  | none =>
   dsimp only
   split <;> rfl
  | some v =>
   dsimp only
   by_cases h8 : d = 8
   · rw [if_pos h8, if_pos (by omega)]
   rw [if_neg h8, csl_hxs z (d + 1) _ t hz2 ht (by omega), Nat.mul_comm n 16, show d + 1 + z.length = d + (z.length + 1) by omega]
theorem hxs_vlu : ∀ (z : List UInt8) (n m : Nat), hxs n z = some m → vlu z = true
 | [], _, _, _ => rfl
 | x :: z, n, m, h => by
  simp only [hxs] at h
  cases hv : hxv x with
  | none => rw [hv] at h; cases h
  | some v =>
   rw [hv] at h
   unfold vlu
   rw [List.all_cons, hxv_vlc (by rw [hv]; rfl)]
   exact hxs_vlu z _ m h
def chl (l : List UInt8) : Option Nat := if (pcs 59 l).headD [] = [] ∨ 8 < ((pcs 59 l).headD []).length ∨ vlu l = false then none else hxs 0 ((pcs 59 l).headD [])
theorem cSz_chl (l : List UInt8) : cSz l = match chl l with | none => .error 8 | some n => .ok n := by
 obtain ⟨z, t, hz, ht, rfl, hp⟩ : ∃ z t, (59 : UInt8) ∉ z ∧ (t = [] ∨ ∃ r, t = 59 :: r) ∧ l = z ++ t ∧ (pcs 59 l).headD [] = z := by
  rcases cut_cases 59 l with ⟨hn, _⟩ | ⟨a, b, hn, rfl, _⟩
  · exact ⟨l, [], hn, .inl rfl, by simp, by rw [pcs_no hn]; rfl⟩
  exact ⟨a, 59 :: b, hn, .inr ⟨b, rfl⟩, rfl, by rw [pcs_cut b hn]; rfl⟩
 unfold cSz chl
 rw [hp, csl_hxs z 0 0 t hz ht (by omega)]
 rw [Nat.zero_add]
 by_cases h8 : 8 < z.length
 · rw [if_pos h8, if_pos (.inr (.inl h8))]
 rw [if_neg h8]
 cases hh : hxs 0 z with
 | none =>
  dsimp only
  by_cases hc : z = [] ∨ 8 < z.length ∨ vlu (z ++ t) = false
  · rw [if_pos hc]
  rw [if_neg hc]
 | some m =>
  have hv := hxs_vlu z 0 m hh
  have e : vlu (z ++ t) = vlu t := by unfold vlu at hv ⊢; rw [List.all_append, hv, Bool.true_and]
  dsimp only
  rw [List.drop_left, e]
  by_cases hz0 : z = []
  · subst hz0
    rw [if_pos (.inl rfl), if_pos (.inl rfl)]
  have hz1 : z.length ≠ 0 := fun h => hz0 (List.length_eq_zero_iff.1 h)
  by_cases ht2 : vlu t = false
  · rw [if_pos (.inr ht2), if_pos (.inr (.inr ht2))]
  rw [if_neg (by intro h; rcases h with h | h; exact hz1 h; exact ht2 h), if_neg (by intro h; rcases h with h | h | h; exact hz0 h; exact h8 h; exact ht2 h)]
def eat (r : List UInt8) : Er Nat := match r with
 | [] => .error 2
 | x :: t => if x = 10 then .ok 1 else if x = 13 then (match t with | [] => .error 2 | y :: _ => if y = 10 then .ok 2 else .error 8) else .error 8
theorem cCk_eat (z : Nat) (l : List UInt8) : cCk z l = if l.length < z then .error 2 else match eat (l.drop z) with
  | .error k => .error k
  | .ok k => .ok (l.take z, l.drop (z + k)) := by
 unfold cCk
 by_cases h : l.length < z
 · rw [if_pos h, if_pos h]
 rw [if_neg h, if_neg h]
 have hd : ∀ k, l.drop (z + k) = (l.drop z).drop k := fun k => by rw [List.drop_drop]
 simp only [hd]
 cases hr : l.drop z with
 | nil => rfl
 | cons x t =>
  by_cases h10 : x = 10
  · subst h10
    rfl
  by_cases h13 : x = 13
  · subst h13
    cases t with
    | nil => rfl
    | cons y t =>
     by_cases hy : y = 10
     · subst hy; rfl
     have e1 : tpr (13 :: y :: t) = y :: t := rfl
     have e2 : eat (13 :: y :: t) = if y = 10 then .ok 2 else .error 8 := rfl
     rw [e1, e2, if_neg hy]
     dsimp only
     rw [if_neg hy]
  have e1 : tpr (x :: t) = x :: t := by unfold tpr; rw [if_neg (by simpa using h13)]
  have e2 : eat (x :: t) = .error 8 := by unfold eat; dsimp only; rw [if_neg h10, if_neg h13]
  rw [e1, e2]
  dsimp only
  rw [if_neg h10]
theorem unc_step (f : Nat) (b l : List UInt8) : unc (f + 1) b l = match fnl l with
  | none => if l.length < 258 then .error 2 else .error 20
  | some i => if 256 < (tcr (l.take i)).length then .error 20 else match chl (tcr (l.take i)) with
    | none => .error 8
    | some z => if 1048576 < b.length + z then .error 1 else if (l.drop (i + 1)).length < z then .error 2 else match eat (l.drop (i + 1 + z)) with
      | .error k => .error k
      | .ok k => if z = 0 then .ok (b ++ (l.drop (i + 1)).take z, l.drop (i + 1 + z + k)) else unc f (b ++ (l.drop (i + 1)).take z) (l.drop (i + 1 + z + k)) := by
 rw [unc, cutL_ref]
 cases hf : fnl l with
 | none =>
  dsimp only
  by_cases h : l.length < 258
  · rw [if_pos h, if_pos h]; rfl
  rw [if_neg h, if_neg h]; rfl
 | some i =>
  dsimp only
  by_cases h : 256 < (tcr (l.take i)).length
  · rw [if_pos h, if_pos h]; rfl
  rw [if_neg h, if_neg h]
  dsimp only
  rw [cSz_chl]
  cases chl (tcr (l.take i)) with
  | none => rfl
  | some z =>
   dsimp only
   rw [Nat.add_comm z b.length]
   by_cases hm : 1048576 < b.length + z
   · rw [if_pos hm, if_pos hm]
   rw [if_neg hm, if_neg hm, cCk_eat]
   by_cases hl : (l.drop (i + 1)).length < z
   · rw [if_pos hl, if_pos hl]
   rw [if_neg hl, if_neg hl, List.drop_drop]
   cases eat (l.drop (i + 1 + z)) with
   | error k => rfl
   | ok k =>
    dsimp only
    rw [List.drop_drop, show i + 1 + (z + k) = i + 1 + z + k by omega]
def hxi (c : UInt8) : Int := match hxv c with
 | none => -1
 | some v => (v.toNat : Int)
theorem hxi_eq (c : UInt8) : hxi c = if 48 ≤ c.toNat ∧ c.toNat ≤ 57 then (c.toNat : Int) - 48 else if 97 ≤ c.toNat ∧ c.toNat ≤ 102 then (c.toNat : Int) - 97 + 10 else if 65 ≤ c.toNat ∧ c.toNat ≤ 70 then (c.toNat : Int) - 65 + 10 else -1 := by
 have h : ∀ n : Nat, n < 256 → hxi (UInt8.ofNat n) = if 48 ≤ n ∧ n ≤ 57 then (n : Int) - 48 else if 97 ≤ n ∧ n ≤ 102 then (n : Int) - 97 + 10 else if 65 ≤ n ∧ n ≤ 70 then (n : Int) - 65 + 10 else -1 := by decide +kernel
 have h1 := h c.toNat c.toNat_lt
 rw [UInt8.ofNat_toNat] at h1
 exact h1
set_option maxRecDepth 100000 in
theorem Rhex_walk (c : UInt8) (w : World) : Calls Tryz.prog 112 #[vb c] w fun e w' => e = .returned (.int .i64 (hxi c)) ∧ w' = w := by
 have hlt := c.toNat_lt
 obtain ⟨rv, hrv⟩ := ny (hxi c)
 have HR := Ho (hxi_eq c)
 rw [hrv] at HR ⊢
 clear hrv
 have HD := Ho (Rdigit_walk c w)
 have HDb := Ho (show isD c = (decide (48 ≤ c.toNat) && decide (c.toNat ≤ 57)) from rfl)
 go_enter Tryz.func112, Tryz.ntmps112
 go_wp2_with fail
 refine HD.o.mono ?_
 rintro e w9 ⟨rfl, h9⟩
 obtain rfl := h9.symm
 clear h9 HD
 dsimp only
 cases hd : isD c with
 | true =>
  have hdn := isD_nat hd
  have HE := Ho (show rv = (c.toNat : Int) - 48 by rw [HR.o, if_pos hdn])
  have hw2 : IntKind.u8.wrap ((c.toNat : Int) - 48) = (c.toNat : Int) - 48 := wrapu8 _ (by omega) (by omega)
  have hw3 : IntKind.i64.wrap ((c.toNat : Int) - 48) = (c.toNat : Int) - 48 := wrapk _ (by omega) (by omega)
  go_wp2
  go_ret
  rw [HE.o]
  exact ⟨rfl, rfl⟩
 | false =>
  have hdn : ¬ (48 ≤ c.toNat ∧ c.toNat ≤ 57) := by
   intro h
   have h2 := HDb.o
   rw [hd, decide_eq_true h.1, decide_eq_true h.2] at h2
   cases h2
  by_cases h97 : 97 ≤ c.toNat ∧ c.toNat ≤ 102
  · obtain ⟨g1, g2⟩ := h97
    have g1z : (97 : Int) ≤ (c.toNat : Int) := by omega
    have g2z : (c.toNat : Int) ≤ 102 := by omega
    have HE := Ho (show rv = (c.toNat : Int) - 97 + 10 by rw [HR.o, if_neg hdn, if_pos ⟨g1, g2⟩])
    have hw2 : IntKind.u8.wrap ((c.toNat : Int) - 97) = (c.toNat : Int) - 97 := wrapu8 _ (by omega) (by omega)
    have hw3 : IntKind.i64.wrap ((c.toNat : Int) - 97) = (c.toNat : Int) - 97 := wrapk _ (by omega) (by omega)
    have hw4 : IntKind.i64.wrap ((c.toNat : Int) - 97 + 10) = (c.toNat : Int) - 97 + 10 := wrapk _ (by omega) (by omega)
    clear hdn
    go_wp2
    go_ret
    rw [HE.o]
    exact ⟨rfl, rfl⟩
  by_cases h65 : 65 ≤ c.toNat ∧ c.toNat ≤ 70
  · obtain ⟨g1, g2⟩ := h65
    have g0z : ¬ (97 : Int) ≤ (c.toNat : Int) := by omega
    have g1z : (65 : Int) ≤ (c.toNat : Int) := by omega
    have g2z : (c.toNat : Int) ≤ 70 := by omega
    have HE := Ho (show rv = (c.toNat : Int) - 65 + 10 by rw [HR.o, if_neg hdn, if_neg h97, if_pos ⟨g1, g2⟩])
    have hw2 : IntKind.u8.wrap ((c.toNat : Int) - 65) = (c.toNat : Int) - 65 := wrapu8 _ (by omega) (by omega)
    have hw3 : IntKind.i64.wrap ((c.toNat : Int) - 65) = (c.toNat : Int) - 65 := wrapk _ (by omega) (by omega)
    have hw4 : IntKind.i64.wrap ((c.toNat : Int) - 65 + 10) = (c.toNat : Int) - 65 + 10 := wrapk _ (by omega) (by omega)
    clear hdn h97
    go_wp2
    go_ret
    rw [HE.o]
    exact ⟨rfl, rfl⟩
  have HE := Ho (show rv = -1 by rw [HR.o, if_neg hdn, if_neg h97, if_neg h65])
  by_cases g1 : 97 ≤ c.toNat
  · have g1z : (97 : Int) ≤ (c.toNat : Int) := by omega
    have g2z : ¬ (c.toNat : Int) ≤ 102 := by omega
    have g3z : (65 : Int) ≤ (c.toNat : Int) := by omega
    have g4z : ¬ (c.toNat : Int) ≤ 70 := by omega
    clear hdn h97 h65
    go_wp2
    go_ret
    rw [HE.o]
    exact ⟨rfl, rfl⟩
  have g1z : ¬ (97 : Int) ≤ (c.toNat : Int) := by omega
  by_cases g3 : 65 ≤ c.toNat
  · have g3z : (65 : Int) ≤ (c.toNat : Int) := by omega
    have g4z : ¬ (c.toNat : Int) ≤ 70 := by omega
    clear hdn h97 h65
    go_wp2
    go_ret
    rw [HE.o]
    exact ⟨rfl, rfl⟩
  have g3z : ¬ (65 : Int) ≤ (c.toNat : Int) := by omega
  clear hdn h97 h65
  go_wp2
  go_ret
  rw [HE.o]
  exact ⟨rfl, rfl⟩
theorem hxs_app (n : Nat) : ∀ (a b : List UInt8), hxs n (a ++ b) = match hxs n a with | none => none | some m => hxs m b := by
 intro a
 induction a generalizing n with
 | nil => intro b; rfl
 | cons x a ih =>
  intro b
  rw [List.cons_append]
  simp only [hxs]
  cases hxv x with
  | none => rfl
  | some v => exact ih _ b
def chN (l : List UInt8) : Int := if 256 < l.length then -1 else match chl l with
 | none => -1
 | some n => (n : Int)
set_option maxRecDepth 100000 in
set_option maxHeartbeats 4000000 in
theorem RchunkLine_walk (s : ByteArray) (hs : s.size ≤ 1099511627000) (w : World) : Calls Tryz.prog 84 #[.string s] w fun e w' => e = .returned (.int .i64 (chN s.data.toList)) ∧ Up w w' := by
 have HS := Ho (Go.Lib.size_eq s)
 obtain ⟨rv, hrv⟩ := ny (chN s.data.toList)
 have HR := Ho hrv
 unfold chN at HR
 rw [hrv]
 clear hrv
 by_cases h256 : 256 < s.size
 · have hz : (256 : Int) < (s.size : Int) := by omega
   have HE := Ho (show rv = -1 by rw [← HR.o, if_pos (by rw [← HS.o]; exact h256)])
   go_enter Tryz.func84, Tryz.ntmps84
   go_wp2
   go_ret
   rw [HE.o]
   exact ⟨rfl, Up.refl _⟩
 have hz : ¬ (256 : Int) < (s.size : Int) := by omega
 have HR2 := Ho (show rv = match chl s.data.toList with | none => -1 | some n => (n : Int) by rw [← HR.o, if_neg (by rw [← HS.o]; exact h256)])
 unfold chl at HR2
 have HPc := Ho (Rpieces_walk s 59 (by omega) w)
 have hlz := pcs_small 59 s.data.toList
 have HVl := Ho (fun w => Rvalued_walk s (by omega) w)
 generalize hvl : vlu s.data.toList = bv at *
 clear hvl HR
 obtain ⟨z, r, hzr⟩ : ∃ z r, pcs 59 s.data.toList = z :: r := by
  cases h : pcs 59 s.data.toList with
  | nil => exact absurd h (pcs_ne 59 _)
  | cons z r => exact ⟨z, r, rfl⟩
 rw [hzr] at HPc HR2 hlz
 have hzl := hlz z (by simp)
 rw [← HS.o] at hzl
 rw [show (z :: r).headD [] = z from rfl] at HR2
 obtain ⟨n, hn⟩ := ny ((z :: r).length)
 have hnp : 0 < n := by rw [← hn, List.length_cons]; omega
 have HNn := Ho (show (bts (z :: r)).length = n by rw [bts_len]; exact hn)
 have HB0 := Ho (show bts (z :: r) = ⟨z.toArray⟩ :: bts r from rfl)
 rw [hn] at HPc
 clear hn hlz hzr
 go_enter Tryz.func84, Tryz.ntmps84
 go_wp2_with fail
 refine HPc.o.mono ?_
 rintro e w2 ⟨⟨a2, c2, rfl, hO⟩, h9⟩
 have HU2 := Ho h9
 obtain ⟨b0, off, rfl, k0⟩ := hO.o.stl.cells 0 (by rw [HNn.o]; omega)
 have hcap := hO.o.stl.cap
 rw [HNn.o] at hcap
 have k0' : w2.cell? ⟨b0, off, none⟩ = some (.string ⟨z.toArray⟩) := by
  simp only [HB0.o] at k0
  exact k0
 clear h9 HPc hO k0 HB0 HNn
 dsimp only
 obtain ⟨Z, hZ⟩ := ny (⟨z.toArray⟩ : ByteArray)
 have HZl := Ho (show Z.data.toList = z by rw [← hZ])
 have HZs := Ho (show Z.size = z.length by rw [Go.Lib.size_eq, HZl.o])
 rw [hZ] at k0'
 clear hZ
 have hZb : Z.size ≤ 256 := by rw [HZs.o]; omega
 by_cases hz0 : Z.size = 0
 · have hem := emp_yes hz0
   have HE := Ho (show rv = -1 by
    have : z = [] := List.length_eq_zero_iff.1 (by rw [← HZs.o]; exact hz0)
    rw [HR2.o, if_pos (.inl this)])
   go_wp2
   go_ret
   rw [HE.o]
   exact ⟨rfl, HU2.o⟩
 have hem := emp_no (s := Z) (by omega)
 by_cases h8 : 8 < Z.size
 · have h8z : (8 : Int) < (Z.size : Int) := by omega
   have HE := Ho (show rv = -1 by rw [HR2.o, if_pos (.inr (.inl (by rw [← HZs.o]; exact h8)))])
   go_wp2
   go_ret
   rw [HE.o]
   exact ⟨rfl, HU2.o⟩
 have h8z : ¬ (8 : Int) < (Z.size : Int) := by omega
 go_wp2_with fail
 refine (HVl.o _).mono ?_
 rintro e w3 ⟨rfl, h9⟩
 have HU3 := Ho (HU2.o.trans h9)
 clear h9 HVl k0'
 dsimp only
 cases bv with
 | false =>
  have HE := Ho (show rv = -1 by rw [HR2.o, if_pos (.inr (.inr rfl))])
  go_wp2
  go_ret
  rw [HE.o]
  exact ⟨rfl, HU3.o⟩
 | true =>
  have HR3 := Ho (show rv = match hxs 0 z with | none => -1 | some n => (n : Int) by
   rw [HR2.o, if_neg]
   rintro (h | h | h)
   · exact hz0 (by rw [HZs.o, h]; rfl)
   · exact h8 (by rw [HZs.o]; exact h)
   cases h)
  have HG := Ho (show ∀ i (h : i < Z.size), Z[i] = z[i]'(by rw [← HZs.o]; exact h) from fun i h => by
   have h1 := HZl.o
   subst h1
   rfl)
  clear HR2
  go_wp2
  go_loopw [5, 6] (fun v5 v6 wr => ∃ i k : Nat, v6 = .int .i64 (i : Int) ∧ v5 = .int .i64 (k : Int) ∧ i ≤ Z.size ∧ k < 16 ^ i ∧ Hd (Up w wr ∧ hxs 0 (z.take i) = some k)) (fun _ v6 _ => Z.size - (intOf v6).toNat)
  case atStart => exact ⟨0, 0, rfl, rfl, Nat.zero_le _, by decide, Ho ⟨HU3.o, rfl⟩⟩
  case round =>
   obtain ⟨i, k, rfl, rfl, hi, hk, hU⟩ := hrel
   have HU := Ho hU.o
   clear hU
   by_cases hil : i < Z.size
   · have hilz : (i : Int) < (Z.size : Int) := by omega
     have hg := HG.o i hil
     have hiz : i < z.length := by rw [← HZs.o]; exact hil
     have HT := Ho (List.take_succ_eq_append_getElem hiz)
     have HFl := Ho (show hxv z[i] = none → rv = -1 from fun h => by
      rw [HR3.o, ← List.take_append_drop i z, hxs_app, HU.o.2]
      dsimp only
      rw [List.drop_eq_getElem_cons hiz]
      simp only [hxs, h])
     generalize z[i]'(by rw [← HZs.o]; exact hil) = x at *
     clear hiz
     have hp := pow16_le i (by omega)
     have hk28 : k < 268435456 := by omega
     have HH := Ho (show ∀ w, Calls Tryz.prog 112 #[vb x] w fun e w' => e = .returned (.int .i64 (hxi x)) ∧ w' = w from fun w => Rhex_walk x w)
     cases hv : hxv x with
     | none =>
      have HE := Ho (HFl.o hv)
      have hxx : hxi x = -1 := by unfold hxi; rw [hv]
      rw [hxx] at HH
      go_wp2_with fail
      refine (HH.o _).mono ?_
      rintro e w9 ⟨rfl, h9⟩
      obtain rfl := h9.symm
      clear h9
      dsimp only
      go_wp2
      go_ret
      rw [HE.o]
      exact ⟨rfl, HU.o.1⟩
     | some v =>
      have hv15 := hxv_le' hv
      have hxx : hxi x = (v.toNat : Int) := by unfold hxi; rw [hv]
      rw [hxx] at HH
      have HN := Ho (show hxs 0 (z.take (i + 1)) = some (16 * k + v.toNat) by rw [HT.o, hxs_snoc, HU.o.2, hv])
      have hpk : 16 * k + v.toNat < 16 ^ (i + 1) := by rw [Nat.pow_succ]; omega
      have hw1 : IntKind.i64.wrap (16 * (k : Int)) = 16 * (k : Int) := wrapk _ (by omega) (by omega)
      have hw2 : IntKind.i64.wrap (16 * (k : Int) + (v.toNat : Int)) = 16 * (k : Int) + (v.toNat : Int) := wrapk _ (by omega) (by omega)
      have hv0 : ¬ (v.toNat : Int) < 0 := by omega
      clear hxx hv HFl HT
      go_wp2_with fail
      refine (HH.o _).mono ?_
      rintro e w9 ⟨rfl, h9⟩
      obtain rfl := h9.symm
      clear h9
      dsimp only
      go_wp2_with fail
      refine (HH.o _).mono ?_
      rintro e w9 ⟨rfl, h9⟩
      obtain rfl := h9.symm
      clear h9
      dsimp only
      go_wp2
      go_roundw
      all_goals first
       | exact ⟨i + 1, 16 * k + v.toNat, by go_num, by simp only [Value.int.injEq, true_and]; omega, by omega, hpk, Ho ⟨HU.o.1, HN.o⟩⟩
       | (simp [intOf]; omega)
   have hilz : ¬ (i : Int) < (Z.size : Int) := by omega
   have HE := Ho (show rv = (k : Int) by
    have h1 := HU.o.2
    rw [List.take_of_length_le (by rw [← HZs.o]; omega)] at h1
    rw [HR3.o, h1])
   go_wp2
   go_ret
   rw [HE.o]
   exact ⟨rfl, HU.o.1⟩
def eaN (l : List UInt8) (k : Nat) : Int := match eat (l.drop k) with
 | .error e => if e = 2 then -2 else -1
 | .ok j => ((k + j : Nat) : Int)
set_option maxRecDepth 100000 in
set_option maxHeartbeats 2000000 in
theorem RendAt_walk (s : ByteArray) (k : Nat) (hk : k ≤ s.size) (hs : s.size ≤ 1099511627776) (w : World) : Calls Tryz.prog 85 #[.string s, .int .i64 (k : Int)] w fun e w' => e = .returned (.int .i64 (eaN s.data.toList k)) ∧ Up w w' := by
 have HS := Ho (Go.Lib.size_eq s)
 obtain ⟨rv, hrv⟩ := ny (eaN s.data.toList k)
 have HR := Ho hrv
 unfold eaN at HR
 rw [hrv]
 clear hrv
 have hkz : (k : Int) ≤ (s.size : Int) := by omega
 obtain ⟨R, hR⟩ := ny (s.extract k s.size : ByteArray)
 have HRl := Ho (show R.data.toList = s.data.toList.drop k by rw [← hR, extr_drop])
 have HRz := Ho (Go.Lib.size_eq R)
 rw [← HRl.o] at HR
 clear HRl HS
 cases hc : R.data.toList with
 | nil =>
  have hem := emp_yes (s := R) (by rw [HRz.o, hc]; rfl)
  have HE := Ho (show rv = -2 by rw [← HR.o, hc]; rfl)
  clear hc
  go_enter Tryz.func85, Tryz.ntmps85
  go_wp2
  go_ret
  rw [HE.o]
  exact ⟨rfl, Up.refl _⟩
 | cons x t =>
  have hz : 0 < R.size := by rw [HRz.o, hc, List.length_cons]; omega
  have hzz : (0 : Int) < (R.size : Int) := by omega
  have hem := emp_no hz
  have hg0 : R[0] = x := by
   rw [sget' R 0 hz]
   simp only [hc, List.getElem_cons_zero]
  cases t with
  | nil =>
   by_cases h13 : x = 13
   · subst h13
     have hq : (R.toList == [13]) = true := by rw [Go.Lib.toList_data, hc]; rfl
     have HE := Ho (show rv = -2 by rw [← HR.o, hc]; rfl)
     clear hc
     go_enter Tryz.func85, Tryz.ntmps85
     go_wp2
     go_ret
     rw [HE.o]
     exact ⟨rfl, Up.refl _⟩
   have hq : (R.toList == [13]) = false := by rw [Go.Lib.toList_data, hc, beq_eq_false_iff_ne]; simpa using h13
   have h13z : ((x.toNat : Int) == 13) = false := by
    have := neU (k := 13) rfl h13
    rw [bne] at this
    simpa using this
   by_cases h10 : x = 10
   · subst h10
     have HE := Ho (show rv = ((k + 1 : Nat) : Int) by rw [← HR.o, hc]; rfl)
     clear hc
     go_enter Tryz.func85, Tryz.ntmps85
     go_wp2
     go_ret
     rw [HE.o]
     exact ⟨congrArg (fun z => Ending.returned (Value.int IntKind.i64 z)) (by omega), Up.refl _⟩
   have h10z : ((x.toNat : Int) == 10) = false := by
    have := neU (k := 10) rfl h10
    rw [bne] at this
    simpa using this
   have HE := Ho (show rv = -1 by
    rw [← HR.o, hc]
    unfold eat
    dsimp only
    rw [if_neg h10, if_neg h13]
    rfl)
   clear hc h13 h10
   go_enter Tryz.func85, Tryz.ntmps85
   go_wp2
   go_ret
   rw [HE.o]
   exact ⟨rfl, Up.refl _⟩
  | cons y t =>
   have hz1 : 1 < R.size := by rw [HRz.o, hc, List.length_cons, List.length_cons]; omega
   have hz1z : (1 : Int) < (R.size : Int) := by omega
   have hg1 : R[1] = y := by
    rw [sget' R 1 hz1]
    simp only [hc, List.getElem_cons_succ, List.getElem_cons_zero]
   have hq : (R.toList == [13]) = false := by rw [Go.Lib.toList_data, hc, beq_eq_false_iff_ne]; simp
   by_cases h10 : x = 10
   · subst h10
     have HE := Ho (show rv = ((k + 1 : Nat) : Int) by rw [← HR.o, hc]; rfl)
     clear hc
     go_enter Tryz.func85, Tryz.ntmps85
     go_wp2
     go_ret
     rw [HE.o]
     exact ⟨congrArg (fun z => Ending.returned (Value.int IntKind.i64 z)) (by omega), Up.refl _⟩
   have h10z : ((x.toNat : Int) == 10) = false := by
    have := neU (k := 10) rfl h10
    rw [bne] at this
    simpa using this
   by_cases h13 : x = 13
   · subst h13
     by_cases hy : y = 10
     · subst hy
       have HE := Ho (show rv = ((k + 2 : Nat) : Int) by rw [← HR.o, hc]; rfl)
       clear hc
       go_enter Tryz.func85, Tryz.ntmps85
       go_wp2
       go_ret
       rw [HE.o]
       exact ⟨congrArg (fun z => Ending.returned (Value.int IntKind.i64 z)) (by omega), Up.refl _⟩
     have hyz : ((y.toNat : Int) == 10) = false := by
      have := neU (k := 10) rfl hy
      rw [bne] at this
      simpa using this
     have HE := Ho (show rv = -1 by
      rw [← HR.o, hc]
      have e2 : eat (13 :: y :: t) = if y = 10 then .ok 2 else .error 8 := rfl
      rw [e2, if_neg hy]
      rfl)
     clear hc hy h10
     go_enter Tryz.func85, Tryz.ntmps85
     go_wp2
     go_ret
     rw [HE.o]
     exact ⟨rfl, Up.refl _⟩
   have h13z : ((x.toNat : Int) == 13) = false := by
    have := neU (k := 13) rfl h13
    rw [bne] at this
    simpa using this
   have HE := Ho (show rv = -1 by
    rw [← HR.o, hc]
    unfold eat
    dsimp only
    rw [if_neg h10, if_neg h13]
    rfl)
   clear hc h13 h10
   go_enter Tryz.func85, Tryz.ntmps85
   go_wp2
   go_ret
   rw [HE.o]
   exact ⟨rfl, Up.refl _⟩
def RunR (w w' : World) (e : Ending) : Er (List UInt8 × Nat) → Prop
 | .error k => e = .returned (.tuple #[.slice none 0 0, .int .i64 0, .int .i64 (numK k)])
 | .ok (b, n) => ∃ v, e = .returned (.tuple #[v, .int .i64 (n : Int), .int .i64 0]) ∧ Hd (Ow w' w.heap.size v b)
def uncA (L b : List UInt8) (k : Nat) : Er (List UInt8 × Nat) := match unc ((L.drop k).length + 1) b (L.drop k) with
 | .error e => .error e
 | .ok (x, r) => .ok (x, L.length - r.length)
theorem eat_len {r : List UInt8} {j : Nat} (h : eat r = .ok j) : 0 < j ∧ j ≤ r.length := by
 match r, h with
 | [], h => cases h
 | [x], h =>
  unfold eat at h
  dsimp only at h
  split at h
  · injection h with h; subst h; exact ⟨by omega, by simp⟩
  split at h <;> cases h
 | x :: y :: t, h =>
  unfold eat at h
  dsimp only at h
  split at h
  · injection h with h; subst h; exact ⟨by omega, by simp⟩
  split at h
  · split at h
    · injection h with h; subst h; exact ⟨by omega, by simp⟩
    cases h
  cases h
theorem eat_er {r : List UInt8} {k : Nat} (h : eat r = .error k) : k = 2 ∨ k = 8 := by
 match r, h with
 | [], h => injection h with h; exact .inl h.symm
 | [x], h =>
  unfold eat at h
  dsimp only at h
  split at h
  · cases h
  split at h
  · injection h with h; exact .inl h.symm
  injection h with h; exact .inr h.symm
 | x :: y :: t, h =>
  unfold eat at h
  dsimp only at h
  split at h
  · cases h
  split at h
  · split at h
    · cases h
    injection h with h; exact .inr h.symm
  injection h with h; exact .inr h.symm
theorem hxs_lt : ∀ (l : List UInt8) (n m : Nat), hxs n l = some m → m < (n + 1) * 16 ^ l.length
 | [], n, m, h => by
  injection h with h
  subst h
  simp
 | x :: l, n, m, h => by
  simp only [hxs] at h
  cases hv : hxv x with
  | none => rw [hv] at h; cases h
  | some v =>
   rw [hv] at h
   have h1 := hxs_lt l _ m h
   have h2 := hxv_le' hv
   have h3 : (16 * n + v.toNat + 1) * 16 ^ l.length ≤ (16 * (n + 1)) * 16 ^ l.length := Nat.mul_le_mul_right _ (by omega)
   have h4 : (n + 1) * 16 ^ (x :: l).length = (16 * (n + 1)) * 16 ^ l.length := by
    rw [List.length_cons, Nat.pow_succ, Nat.mul_comm (16 ^ l.length) 16, ← Nat.mul_assoc, Nat.mul_comm (n + 1) 16]
   omega
theorem chl_lt {l : List UInt8} {z : Nat} (h : chl l = some z) : z < 4294967296 := by
 unfold chl at h
 split at h
 · cases h
 rename_i hc
 have h1 := hxs_lt _ 0 z h
 have h8 : ((pcs 59 l).headD []).length ≤ 8 := by
  rcases Nat.lt_or_ge 8 ((pcs 59 l).headD []).length with h' | h'
  · exact absurd (.inr (.inl h')) hc
  exact h'
 have h2 : 16 ^ ((pcs 59 l).headD []).length ≤ 16 ^ 8 := Nat.pow_le_pow_right (by omega) h8
 have h3 : (16 : Nat) ^ 8 = 4294967296 := by decide
 omega
theorem uncA_step (L b : List UInt8) (k : Nat) (hk : k ≤ L.length) : uncA L b k = match fnl (L.drop k) with
  | none => if L.length - k < 258 then .error 2 else .error 20
  | some i => if 256 < (tcr ((L.drop k).take i)).length then .error 20 else match chl (tcr ((L.drop k).take i)) with
    | none => .error 8
    | some z => if 1048576 < b.length + z then .error 1 else if L.length - (k + i + 1) < z then .error 2 else match eat (L.drop (k + i + 1 + z)) with
      | .error e => .error e
      | .ok j => if z = 0 then .ok (b ++ (L.drop (k + i + 1)).take z, k + i + 1 + z + j) else uncA L (b ++ (L.drop (k + i + 1)).take z) (k + i + 1 + z + j) := by
 have hl : (L.drop k).length = L.length - k := List.length_drop
 have key : uncA L b k = match unc ((L.drop k).length + 1) b (L.drop k) with
  | .error e => .error e
  | .ok (x, r) => .ok (x, L.length - r.length) := rfl
 rw [key, unc_step]
 cases hf : fnl (L.drop k) with
 | none =>
  dsimp only
  rw [hl]
  by_cases h : L.length - k < 258
  · rw [if_pos h, if_pos h]
  rw [if_neg h, if_neg h]
 | some i =>
  have hi := fnl_lt hf
  dsimp only
  by_cases h : 256 < (tcr ((L.drop k).take i)).length
  · rw [if_pos h, if_pos h]
  rw [if_neg h, if_neg h]
  cases chl (tcr ((L.drop k).take i)) with
  | none => rfl
  | some z =>
   dsimp only
   by_cases hm : 1048576 < b.length + z
   · rw [if_pos hm, if_pos hm]
   rw [if_neg hm, if_neg hm]
   simp only [List.drop_drop, List.length_drop]
   rw [show k + (i + 1) = k + i + 1 by omega]
   by_cases hz : L.length - (k + i + 1) < z
   · rw [if_pos hz, if_pos hz]
   rw [if_neg hz, if_neg hz, show k + (i + 1 + z) = k + i + 1 + z by omega]
   cases he : eat (L.drop (k + i + 1 + z)) with
   | error e => rfl
   | ok j =>
    have hj := eat_len he
    rw [List.length_drop] at hj
    dsimp only
    rw [show k + (i + 1 + z + j) = k + i + 1 + z + j by omega]
    by_cases h0 : z = 0
    · rw [if_pos h0, if_pos h0]
      dsimp only
      rw [List.length_drop, show L.length - (L.length - (k + i + 1 + z + j)) = k + i + 1 + z + j by omega]
    rw [if_neg h0, if_neg h0]
    unfold uncA
    rw [unc_fuel (L.length - k) ((L.drop (k + i + 1 + z + j)).length + 1) _ _ (by rw [List.length_drop]; omega) (by omega)]
set_option maxRecDepth 100000 in
set_option maxHeartbeats 8000000 in
theorem RUnchunk_walk {a : Option Addr} {n c : Nat} {ds : List UInt8} (hn40 : n ≤ 1099511627000) (w : World) (hS : Sb w (.slice a n c) ds) : Calls Tryz.prog 34 #[.slice a n c] w fun e w' => RunR w w' e (unk ds) ∧ Up w w' := by
 obtain ⟨hn, hnc, hcm⟩ := hS.len
 have hcv := conv_sb2 hS
 clear hS hnc hcm
 obtain ⟨s, hs⟩ := ny (⟨ds.toArray⟩ : ByteArray)
 have HL := Ho (show s.data.toList = ds by rw [← hs])
 have HZ := Ho (show s.size = ds.length by rw [Go.Lib.size_eq, HL.o])
 have hsz : s.size ≤ 1099511627000 := by rw [HZ.o]; omega
 rw [hs] at hcv
 clear hs hn
 obtain ⟨rv, hrv⟩ := ny (unk ds)
 have HR := Ho (show rv = uncA ds [] 0 from hrv.symm)
 rw [hrv]
 clear hrv
 go_enter Tryz.func34, Tryz.ntmps34
 go_wp2
 clear hcv
 go_loopw [6, 7] (fun v6 v7 wr => ∃ (k m : Nat) (a6 : Option Addr) (c6 : Nat), v7 = .int .i64 (k : Int) ∧ v6 = .slice a6 m c6 ∧ k ≤ s.size ∧ m ≤ 1048576 ∧ Hd (∃ out, out.length = m ∧ Ow wr w.heap.size (.slice a6 m c6) out ∧ Up w wr ∧ rv = uncA ds out k)) (fun _ v7 _ => s.size - (intOf v7).toNat)
 case atStart => exact ⟨0, 0, none, 0, rfl, rfl, Nat.zero_le _, Nat.zero_le _, Ho ⟨[], rfl, World.ownsRow_nil _ _ _ _, Up.refl _, HR.o⟩⟩
 case round =>
  obtain ⟨k, m, a6, c6, rfl, rfl, hk, hm, hU⟩ := hrel
  obtain ⟨out, hol, hOw, hUp, hrv⟩ := hU.o
  have HO := Ho hOw
  have HU := Ho hUp
  have HOl := Ho hol
  have HSt := Ho (hrv.trans (uncA_step ds out k (by rw [← HZ.o]; exact hk)))
  clear hU hOw hUp hrv hol HR
  have HLn := Ho (RlineAt_walk s k (by omega) (by omega) wr)
  rw [HL.o] at HLn
  have HA : Hd (lnA ds k = match fnl (ds.drop k) with | none => ([], -1) | some i => (tcr ((ds.drop k).take i), ((k + i + 1 : Nat) : Int))) := Ho rfl
  cases hf : fnl (ds.drop k) with
  | none =>
   rw [hf] at HSt HA
   dsimp only at HSt HA
   rw [HA.o] at HLn
   dsimp only at HLn
   go_wp2_with fail
   refine HLn.o.mono ?_
   rintro e w2 ⟨rfl, h9⟩
   have HU2 := Ho (HU.o.trans h9)
   clear h9 HLn HA hf
   dsimp only
   by_cases h258 : s.size - k < 258
   · have hz : ¬ (257 : Int) < (s.size : Int) - (k : Int) := by omega
     have HE := Ho (show rv = .error 2 by rw [HSt.o, if_pos (by rw [← HZ.o]; exact h258)])
     clear HSt
     go_wp2
     go_ret3
     rw [HE.o]
     exact ⟨rfl, HU2.o⟩
   have hz : (257 : Int) < (s.size : Int) - (k : Int) := by omega
   have HE := Ho (show rv = .error 20 by rw [HSt.o, if_neg (by rw [← HZ.o]; exact h258)])
   clear HSt
   go_wp2
   go_ret3
   rw [HE.o]
   exact ⟨rfl, HU2.o⟩
  | some i =>
   have hil := fnl_lt hf
   rw [List.length_drop, ← HZ.o] at hil
   rw [hf] at HSt HA
   dsimp only at HSt HA
   rw [HA.o] at HLn
   dsimp only at HLn
   have hlen := tcr_len ((ds.drop k).take i)
   rw [List.length_take] at hlen
   generalize tcr ((ds.drop k).take i) = ln at *
   obtain ⟨nx, hnx⟩ := ny (k + i + 1)
   rw [hnx] at HSt HLn
   have hnk : k < nx := by omega
   have hns : nx ≤ s.size := by omega
   obtain ⟨X, hX⟩ := ny (⟨ln.toArray⟩ : ByteArray)
   have HXl := Ho (show X.data.toList = ln by rw [← hX])
   have hXz : X.size ≤ s.size := by rw [Go.Lib.size_eq, HXl.o]; omega
   have hvX : vs ln = .string X := by rw [← hX]
   rw [hvX] at HLn
   have HCl := Ho (show ∀ w, Calls Tryz.prog 84 #[.string X] w fun e w' => e = .returned (.int .i64 (chN ln)) ∧ Up w w' from fun w => by
    have h := RchunkLine_walk X (by omega) w
    rw [HXl.o] at h
    exact h)
   clear hX hvX hlen HXl hf hil hnx HA
   have hnx0 : ¬ (nx : Int) < 0 := by omega
   go_wp2_with fail
   refine HLn.o.mono ?_
   rintro e w2 ⟨rfl, h9⟩
   have HU2 := Ho (HU.o.trans h9)
   have HO2 := Ho (ow_up HO.o h9)
   clear h9 HLn HU HO
   dsimp only
   go_wp2_with fail
   refine (HCl.o _).mono ?_
   rintro e w3 ⟨rfl, h9⟩
   have HU3 := Ho (HU2.o.trans h9)
   have HO3 := Ho (ow_up HO2.o h9)
   clear h9 HCl HU2 HO2
   dsimp only
   by_cases hbad : 256 < ln.length ∨ chl ln = none
   · have hcn : chN ln = -1 := by
      unfold chN
      rcases hbad with h | h
      · rw [if_pos h]
      rw [h]
      split <;> rfl
     have HE := Ho (show ∃ q, rv = .error q ∧ numK q = 146 by
      rw [HSt.o]
      by_cases h : 256 < ln.length
      · rw [if_pos h]; exact ⟨20, rfl, rfl⟩
      rw [if_neg h, hbad.resolve_left h]; exact ⟨8, rfl, rfl⟩)
     rw [hcn]
     clear hcn hbad HSt
     obtain ⟨q, hq1, hq2⟩ := HE.o
     have HE1 := Ho hq1
     have HE2 := Ho hq2
     clear HE hq1 hq2
     go_wp2
     go_ret3
     rw [HE1.o]
     refine ⟨?_, HU3.o⟩
     show Ending.returned _ = Ending.returned _
     rw [HE2.o]
     rfl
   obtain ⟨hb1, hb2⟩ := not_or.1 hbad
   obtain ⟨z, hzc⟩ : ∃ z, chl ln = some z := by
    cases h : chl ln with
    | none => exact absurd h hb2
    | some z => exact ⟨z, rfl⟩
   have hzl := chl_lt hzc
   have hcn : chN ln = (z : Int) := by unfold chN; rw [if_neg hb1, hzc]
   rw [if_neg hb1, hzc] at HSt
   dsimp only at HSt
   rw [hcn]
   rw [HOl.o] at HSt
   clear hcn hbad hb1 hb2 hzc
   have hz0 : ¬ (z : Int) < 0 := by omega
   have hwm : IntKind.i64.wrap ((m : Int) + (z : Int)) = (m : Int) + (z : Int) := wrapk _ (by omega) (by omega)
   by_cases hbig : 1048576 < m + z
   · have hbz : (1048576 : Int) < (m : Int) + (z : Int) := by omega
     have HE := Ho (show rv = .error 1 by rw [HSt.o, if_pos hbig])
     clear HSt
     go_wp2
     go_ret3
     rw [HE.o]
     exact ⟨rfl, HU3.o⟩
   have hbz : ¬ (1048576 : Int) < (m : Int) + (z : Int) := by omega
   rw [if_neg hbig] at HSt
   by_cases hsh : s.size - nx < z
   · have hsz2 : (s.size : Int) - (nx : Int) < (z : Int) := by omega
     have HE := Ho (show rv = .error 2 by rw [HSt.o, if_pos (by rw [← HZ.o]; exact hsh)])
     clear HSt
     go_wp2
     go_ret3
     rw [HE.o]
     exact ⟨rfl, HU3.o⟩
   have hsz2 : ¬ (s.size : Int) - (nx : Int) < (z : Int) := by omega
   rw [if_neg (by rw [← HZ.o]; exact hsh)] at HSt
   obtain ⟨T, hT⟩ := ny ((ds.drop nx).take z)
   have hTl : T.length = z := by rw [← hT, List.length_take, List.length_drop, ← HZ.o]; omega
   rw [hT] at HSt
   have HX2 := Ho (show (s.extract nx (nx + z)).data.toList = T by rw [extr_mid, HL.o, show nx + z - nx = z by omega]; exact hT)
   have hnz : (nx : Int) + (z : Int) ≤ (s.size : Int) := by omega
   have hnz0 : (nx : Int) ≤ (nx : Int) + (z : Int) := by omega
   have hwn : IntKind.i64.wrap ((nx : Int) + (z : Int)) = (nx : Int) + (z : Int) := wrapk _ (by omega) (by omega)
   have HEa := Ho (show ∀ w, Calls Tryz.prog 85 #[.string s, .int .i64 ((nx : Int) + (z : Int))] w fun e w' => e = .returned (.int .i64 (eaN ds (nx + z))) ∧ Up w w' from fun w => by
    have h := RendAt_walk s (nx + z) (by omega) (by omega) w
    rw [HL.o] at h
    exact h)
   have htn : ((nx : Int) + (z : Int)).toNat = nx + z := by omega
   clear hT
   go_wp2_with (with_reducible refine sA ?_)
   show wpList _ _ _ _ _ _
   refine wpList_appStr (w := w3) (N := w.heap.size) rfl _ _ rfl a6 c6 out (s.extract nx (nx + z)) T rfl rfl HX2.o HOl.o HO3.o HU3.o.size (by omega) ?_
   rw [hTl]
   intro ax2 cx2 w4 o4 u4
   have HU4 := Ho (u4 w HU3.o (Nat.le_refl _))
   have HO4 := Ho o4
   have HOl4 := Ho (show (out ++ T).length = m + z by rw [List.length_append, HOl.o, hTl])
   clear o4 u4 HX2 HU3 HO3
   simp only [Act.put, pB, pC, pD]
   go_wp2_with fail
   refine (HEa.o _).mono ?_
   rintro e w5 ⟨rfl, h9⟩
   have HU5 := Ho (HU4.o.trans h9)
   have HO5 := Ho (ow_up HO4.o h9)
   clear h9 HEa HU4 HO4
   dsimp only
   have HV : Hd (eaN ds (nx + z) = match eat (ds.drop (nx + z)) with | .error e => if e = 2 then -2 else -1 | .ok j => ((nx + z + j : Nat) : Int)) := Ho rfl
   cases he : eat (ds.drop (nx + z)) with
   | error q =>
    rw [he] at HV HSt
    dsimp only at HV HSt
    rw [HV.o]
    rcases eat_er he with rfl | rfl
    · have HE := Ho HSt.o
      clear HSt HV he
      rw [if_pos rfl]
      go_wp2
      go_ret3
      rw [HE.o]
      exact ⟨rfl, HU5.o⟩
    have HE := Ho HSt.o
    clear HSt HV he
    rw [if_neg (by decide)]
    go_wp2
    go_ret3
    rw [HE.o]
    exact ⟨rfl, HU5.o⟩
   | ok j =>
    have hj := eat_len he
    rw [List.length_drop, ← HZ.o] at hj
    rw [he] at HV HSt
    dsimp only at HV HSt
    rw [HV.o]
    clear HV he
    obtain ⟨k2, hk2⟩ := ny (nx + z + j)
    rw [hk2] at HSt ⊢
    have hk2s : k2 ≤ s.size := by omega
    have hkk : k < k2 := by omega
    have hk20 : ¬ (k2 : Int) < 0 := by omega
    have hk22 : ((k2 : Int) == -2) = false := by rw [beq_eq_false_iff_ne]; omega
    clear hk2 hj
    by_cases hz00 : z = 0
    · have hzz : ((z : Int) == 0) = true := by rw [hz00]; rfl
      have HE := Ho (show rv = .ok (out ++ T, k2) by rw [HSt.o, if_pos hz00])
      have HO6 := Ho (show Ow w5 w.heap.size (.slice ax2 (m + z) cx2) (out ++ T) from HO5.o)
      clear HSt hz00
      go_wp2
      go_ret3
      rw [HE.o]
      exact ⟨⟨_, rfl, HO6⟩, HU5.o⟩
    have hzz : ((z : Int) == 0) = false := by rw [beq_eq_false_iff_ne]; omega
    have HE := Ho (show rv = uncA ds (out ++ T) k2 by rw [HSt.o, if_neg hz00])
    clear HSt
    go_wp2
    go_roundw
    all_goals first
     | exact ⟨k2, m + z, ax2, cx2, rfl, rfl, hk2s, by omega, Ho ⟨out ++ T, HOl4.o, HO5.o, HU5.o, HE.o⟩⟩
     | (simp [intOf]; omega)
def OwnM (w : World) (B : Nat) (v : Value) (l : List UInt8) : Prop := ∃ g cap cur fr, v = .slice (some ⟨g, 0, none⟩) l.length cap ∧ B ≤ g ∧ w.heap[g]? = some (.cells cur 5 fr) ∧ (fr.2 = 0 ∨ cap ≤ fr.1) ∧ l.length ≤ cap ∧ cap ≤ maxLen ∧ cur.size = cap ∧ cur.toList.take l.length = cb l
theorem OwnM.up {w w' : World} {B : Nat} {v : Value} {l : List UInt8} (h : OwnM w B v l) (k : Up w w') : OwnM w' B v l := by
 obtain ⟨g, cap, cur, fr, rfl, hB, hg, r⟩ := h
 refine ⟨g, cap, cur, fr, rfl, hB, ?_, r⟩
 rw [k.block g (Array.getElem?_eq_some_iff.1 hg).1]; exact hg
theorem OwnM.base {w : World} {B B' : Nat} {v : Value} {l : List UInt8} (h : OwnM w B v l) (hB : B' ≤ B) : OwnM w B' v l := by
 obtain ⟨g, cap, cur, fr, e, hb, r⟩ := h
 exact ⟨g, cap, cur, fr, e, Nat.le_trans hB hb, r⟩
theorem OwnM.cells {w : World} {B : Nat} {g cap : Nat} {l : List UInt8} (h : OwnM w B (.slice (some ⟨g, 0, none⟩) l.length cap) l) : g < w.heap.size ∧ ∀ j u, (cb l)[j]? = some u → w.cell? ⟨g, j, none⟩ = some u := by
 obtain ⟨g', cap', cur, fr, e, hB, hg, _, _, _, _, ht⟩ := h
 injection e with e1 _ _
 injection e1 with e1
 injection e1 with e1 _ _
 subst e1
 refine ⟨(Array.getElem?_eq_some_iff.1 hg).1, fun j u hu => ?_⟩
 rw [cell_of_row w g j cur _ fr hg]
 rw [← ht, List.getElem?_take] at hu
 split at hu
 · simpa using hu
 cases hu
theorem run_storeCells_mk (P : Program) (g o : Nat) (t : TypeId) (fz : Nat × Nat) : ∀ (vs : List Value) (i : Nat) (cur : Array Value) (w : World), w.heap[g]? = some (.cells cur t fz) → (fz.2 = 0 ∨ cur.size ≤ fz.1) → o + i + vs.length ≤ cur.size → (∀ v ∈ vs, v.oneCell' = true) →
  (storeCells ⟨g, o, none⟩ vs i).run P w = .ok () (w.setRow g (cur.toList.take (o + i) ++ vs ++ cur.toList.drop (o + i + vs.length)).toArray)
 | [], i, cur, w, hg, _, _, _ => by
  simp only [storeCells, List.append_nil, List.length_nil, Nat.add_zero, List.take_append_drop, Array.toArray_toList]
  rw [setRow_self w g cur t fz hg]
  rfl
 | v :: rest, i, cur, w, hg, hfz, hl, h1 => by
  have hi : o + i < cur.size := by simp at hl; omega
  have hadd : (⟨g, o, none⟩ : Addr).add i = ⟨g, o + i, none⟩ := by unfold Addr.add; split <;> simp_all
  have hcell : w.cell? ⟨g, o + i, none⟩ = some cur[o + i] := by simp [World.cell?, hg, hi]
  have hfro : w.frozen? ⟨g, o + i, none⟩ = false := by
   obtain ⟨lo, hi'⟩ := fz
   simp only [World.frozen?, hg, Bool.and_eq_false_iff, decide_eq_false_iff_not]
   simp only at hfz
   omega
  have hst : (store ((⟨g, o, none⟩ : Addr).add i) v).run P w = .ok () (w.setRow g (cur.setIfInBounds (o + i) v)) := by
   rw [hadd, run_store P w _ v _ (h1 v (by simp)), hcell]
   simp [hfro, setCell_eq_setRow w g (o + i) cur t fz v hg]
  have ih := run_storeCells_mk P g o t fz rest (i + 1) (cur.setIfInBounds (o + i) v) (w.setRow g (cur.setIfInBounds (o + i) v)) (setRow_heap w g cur _ t _ hg) (by simpa using hfz) (by simp at hl ⊢; omega) (fun x hx => h1 x (by simp [hx]))
  simp only [storeCells, Sem.run_bind, hst, Result.andThen_ok, ih, setRow_setRow]
  congr 3
  have e := list_seg_step cur.toList (o + i) v rest (by simp at hl ⊢; omega)
  simpa [Array.toList_setIfInBounds, Nat.add_assoc] using e
theorem run_app_srcM {w : World} {B : Nat} {v : Value} {l : List UInt8} (xT : TypeId) (sv' : Value) (m : List UInt8) (ty : TypeId) (hk : Tryz.prog.underlying xT = some .string ∨ Tryz.prog.underlying xT = some (.slice 5)) (hs1 : Src Tryz.prog 1 xT sv' m.length (cb m) w) (hown : OwnM w B v l) (hn : l.length + m.length ≤ 140737488355328) (hB : B ≤ w.heap.size) :
  ∃ v' w', (Builtin.append_ #[22, xT] ty #[v, sv']).run Tryz.prog w = .ok v' w' ∧ OwnM w' B v' (l ++ m) ∧ Below B w w' := by
 obtain ⟨i, hi, hz, hsize, hby⟩ := info_parts Tryz.infoU8
 have ht : Tryz.prog.underlying 22 = some (.slice 5) := Tryz.underlying22
 have hs : Src Tryz.prog i.size xT sv' m.length (cb m) w := by rw [hsize]; exact hs1
 have hlen : (cb l ++ cb m).length = l.length + m.length := by simp [cb]
 have h0 := hown
 obtain ⟨g, cap, cur, fr, rfl, hbg, hg, hfr, hnc, hcm, hcs, htake⟩ := hown
 by_cases hroom : l.length + m.length ≤ cap
 · have hfit : l.length + (cb m).length ≤ cur.size := by rw [hcs, cb_length]; omega
   have hst := run_storeCells_mk Tryz.prog g (l.length * i.size) 5 fr (cb m) 0 cur w hg (by rw [hcs]; exact hfr) (by rw [hsize]; simpa using hfit) (cb_one m)
   simp only [Nat.add_zero] at hst
   have hr : (Builtin.append_ #[22, xT] ty #[.slice (some ⟨g, 0, none⟩) l.length cap, sv']).run Tryz.prog w =
     .ok (.slice (some ⟨g, 0, none⟩) (l.length + m.length) cap) (w.setRow g (cur.toList.take (l.length * i.size) ++ cb m ++ cur.toList.drop (l.length * i.size + (cb m).length)).toArray) := by
    rcases hk with hk | hk <;> simp [Builtin.append_, run_underlying ht, run_underlying hk, sizeOf, typeInfo, hi, hs.len, hroom, hs.cells, Addr.add_lit, hst]
   refine ⟨_, _, hr, ⟨g, cap, _, fr, by rw [List.length_append], hbg, setRow_heap w g cur _ 5 _ hg, hfr, by rw [List.length_append]; exact hroom, hcm, ?_, ?_⟩, ⟨rfl, rfl, rfl, by simp, fun k hk => setRow_other w g k _ (by omega)⟩⟩
   · simp only [List.size_toArray, List.length_append, List.length_take, List.length_drop, Array.length_toList, cb_length, hsize]
     omega
   rw [hsize, Nat.mul_one, htake, cb_append, List.length_append, ← hlen]
   exact List.take_left
 obtain ⟨_, holds⟩ := h0.cells
 have hold := run_firstCells_some (P := Tryz.prog) w.drew i.size l.length ⟨g, 0, none⟩ l.length cap (cb l) (by rw [hsize, cb_length, Nat.mul_one]) (fun j u hj => by rw [Addr.add_lit, Nat.zero_add]; exact (World.cell?_drew _ _).trans (holds j u hj))
 have hr := run_append_grow_src (P := Tryz.prog) w 22 xT ty 5 i _ ht hi hz (some ⟨g, 0, none⟩) l.length cap (cb l) hold _ m.length (cb m) hs (by omega) (by omega) (growslice_fits (by omega) (by rw [hby]; omega))
 have hge := grownCap_ge w (l.length + m.length) cap 5
 have hcm2 : grownCap w (l.length + m.length) cap 5 ≤ maxLen := grownCap_le_maxLen w _ cap _ (by unfold maxLen; omega)
 refine ⟨_, _, hr, ⟨w.heap.size, _, _, (0, 0), by rw [List.length_append], hB, heap_alloc_new w.drew _, .inl rfl, by rw [List.length_append]; exact hge, hcm2, ?_, ?_⟩, Below.alloc (Below.drew (Below.refl B w)) hB _⟩
 · simp only [Array.size_append, List.size_toArray, size_zeroCells, hlen]
   simp [Value.cells]
   omega
 simp only [Array.toList_append, cb_append, List.length_append]
 rw [← hlen]
 exact List.take_left
theorem src_sb {w : World} {v : Value} {m : List UInt8} (h : Sb w v m) : Src Tryz.prog 1 22 v m.length (cb m) w := by
 obtain ⟨ay, cy, rfl, k1, k2, k3, k4⟩ := h
 cases ay with
 | none =>
  obtain ⟨rfl, rfl⟩ := k3 rfl
  exact Src.ofNil w Tryz.underlying22 0
 | some ad => exact Src.ofSlice w Tryz.underlying22 ad m.length cy (cb m) (by rw [cb_length, Nat.mul_one]) (k4 ad rfl).2 (cb_one m)
theorem src_str (w : World) (s : ByteArray) : Src Tryz.prog 1 9 (.string s) s.data.toList.length (cb s.data.toList) w := by
 have h := Src.ofString w Tryz.underlying9 s
 have e : byteCells s = cb s.data.toList := by simp [byteCells, cb]
 rw [e, Go.Lib.size_eq] at h
 exact h
theorem wpList_appM {ops : Array Oper} {rest : List Oper} {o : Oper} {a : Act} {w : World} {Q : Exit → Act → World → Prop} (hgd : o.guard = none) (s x : Operand) (xT : TypeId)
  (ho : o.op = .call { callee := .builtin .append, args := #[s, x], argTypes := #[22, xT] }) (B q : Nat) (ax : Option Addr) (cx : Nat) (vy : Value) (l m : List UInt8) (hs : a.eval s = .slice ax q cx) (hown : OwnM w B (.slice ax q cx) l) (hq : l.length = q)
  (hx : a.eval x = vy) (hk : Tryz.prog.underlying xT = some .string ∨ Tryz.prog.underlying xT = some (.slice 5)) (hS : Src Tryz.prog 1 xT vy m.length (cb m) w) (hn : l.length + m.length ≤ 140737488355328) (hB : B ≤ w.heap.size)
  (h : ∀ a2 c2 w', OwnM w' B (.slice a2 (q + m.length) c2) (l ++ m) → Below B w w' → wpList Tryz.prog ops Q rest (a.put o.dst (.slice a2 (q + m.length) c2)) w') : wpList Tryz.prog ops Q (o :: rest) a w := by
 subst hq
 refine wpList_plain hgd fun K hK => ?_
 obtain ⟨v', w', hr, h2, h3⟩ := run_app_srcM xT vy m o.type hk hS hown hn hB
 obtain ⟨a2, c2, rfl⟩ : ∃ a2 c2, v' = .slice a2 (l.length + m.length) c2 := by
  obtain ⟨g, cap, cur, fr, e, _⟩ := h2
  exact ⟨_, _, by rw [e, List.length_append]⟩
 unfold Oper.wp execOp
 simp only [ho, resolve, invoke, builtin, Sem.run_bind, Sem.run_pure, Result.andThen_ok, List.map_toArray, List.map_cons, List.map_nil, hs, hx, hr]
 exact hK _ _ (h a2 c2 w' h2 h3)
theorem OwnM.sb {w : World} {B : Nat} {v : Value} {l : List UInt8} (h : OwnM w B v l) : Sb w v l := by
 have h0 := h
 obtain ⟨g, cap, cur, fr, rfl, hB, hg, _, hc, hm, _⟩ := h
 obtain ⟨h1, h2⟩ := h0.cells
 exact ⟨_, cap, rfl, hc, hm, (fun e => by cases e), fun ad e => by
  obtain rfl := Option.some.inj e
  exact ⟨fun _ => rfl, fun j u hj => by rw [Addr.add_lit, Nat.zero_add]; exact h2 j u hj⟩⟩
theorem below_up {w w' : World} {B : Nat} (h : Below B w w') {W : World} (hu : Up W w) (hB : W.heap.size ≤ B) : Up W w' :=
 ⟨h.os.trans hu.os, h.tape.trans hu.tape, h.output.trans hu.output, Nat.le_trans hu.size h.size, fun j hj => (h.block j (by omega)).trans (hu.block j hj)⟩
theorem conv_str (w : World) (t : ByteArray) (ht : t.size ≤ 140737488355328) : ∃ v w', (convert 9 22 (.string t)).run Tryz.prog w = .ok v w' ∧ OwnM w' w.heap.size v t.data.toList ∧ Up w w' := by
 have hge := grownCap_ge w t.size 0 5
 have hcm : grownCap w t.size 0 5 ≤ maxLen := grownCap_le_maxLen w _ 0 _ (by unfold maxLen; omega)
 have hc : (Go.Lib.bytesCells w 5 t).size = grownCap w t.size 0 5 := by
  simp only [Go.Lib.bytesCells, Array.size_append, Array.size_map, Array.size_replicate]
  have : t.data.size = t.size := rfl
  omega
 refine ⟨_, _, Go.Lib.run_convert_string_bytes (P := Tryz.prog) w 9 22 5 t Tryz.underlying9 Tryz.underlying22 Tryz.underlying5, ⟨w.heap.size, _, Go.Lib.bytesCells w 5 t, _, by rw [← Go.Lib.size_eq], Nat.le_refl _, Go.Lib.bytesWorld_at_new w 5 t, .inr (by rw [hc]; exact Nat.le_refl _), by rw [← Go.Lib.size_eq]; exact hge, hcm, hc, ?_⟩, ⟨rfl, rfl, rfl, by rw [Go.Lib.bytesWorld_size]; omega, fun j hj => Go.Lib.bytesWorld_at_old w 5 t j hj⟩⟩
 simp only [Go.Lib.bytesCells, Array.toList_append, Array.toList_map]
 have : (t.data.toList.map fun b => Value.int .u8 (b.toNat : Int)) = cb t.data.toList := rfl
 rw [this, show t.data.toList.length = (cb t.data.toList).length by rw [cb_length]]
 exact List.take_left
theorem wpList_conv {ops : Array Oper} {rest : List Oper} {o : Oper} {a : Act} {w : World} {Q : Exit → Act → World → Prop} (hgd : o.guard = none) (s : Operand)
  (ho : o.op = .convert 9 22 s) (t : ByteArray) (ht : t.size ≤ 140737488355328) (hs : a.eval s = .string t)
  (h : ∀ v' w', OwnM w' w.heap.size v' t.data.toList → Up w w' → wpList Tryz.prog ops Q rest (a.put o.dst v') w') : wpList Tryz.prog ops Q (o :: rest) a w := by
 refine wpList_plain hgd fun K hK => ?_
 obtain ⟨v', w', hr, h2, h3⟩ := conv_str w t ht
 unfold Oper.wp execOp
 simp only [ho, Sem.run_bind, Sem.run_pure, Result.andThen_ok, hs, hr]
 exact hK _ _ (h v' w' h2 h3)
theorem src_lnb (w : World) (f : FD) : Src Tryz.prog 1 9 (.string (f.n ++ (⟨#[58, 32]⟩ : ByteArray) ++ f.v ++ (⟨#[13, 10]⟩ : ByteArray))) (lnb f).length (cb (lnb f)) w := by
 have h := src_str w (f.n ++ (⟨#[58, 32]⟩ : ByteArray) ++ f.v ++ (⟨#[13, 10]⟩ : ByteArray))
 rw [bat_app, bat_app, bat_app] at h
 exact h
set_option maxRecDepth 100000 in
set_option maxHeartbeats 2000000 in
theorem Rlaid_walk (s : ByteArray) (a : Option Addr) (fs : List FD) (c : Nat) (vb' : Value) (bd : List UInt8) (w : World) (h : FdL w a fs c) (hb : Sb w vb' bd) (hs : s.size ≤ 1048576) (hl : szs fs ≤ 1048576) (hbl : bd.length ≤ 1048576) :
  Calls Tryz.prog 51 #[.string s, .slice a fs.length c, vb'] w fun e w' => (∃ a2 c2, e = .returned (.slice a2 (prt s.data.toList fs bd).length c2) ∧ Hd (Sb w' (.slice a2 (prt s.data.toList fs bd).length c2) (prt s.data.toList fs bd))) ∧ Up w w' := by
 have HF := Ho h
 have HB := Ho hb
 have hcap := h.cap
 have hsl := szs_len fs
 have HZs := Ho (fun i => szs_take fs i)
 obtain ⟨ab, nb, cb', rfl⟩ := Sb.shape hb
 have hsz := Go.Lib.size_eq s
 have HSz := Ho hsz
 clear h hb hsz
 obtain ⟨st2, hst2⟩ := ny (s.data.toList ++ [13, 10])
 have HSt := Ho hst2
 have hstl : st2.length ≤ 1048578 := by rw [← hst2, List.length_append, ← HSz.o]; simp; omega
 have hl1 : ¬ 9223372036854775807 < s.size + 2 := by omega
 have HBt := Ho (show (s ++ (⟨#[13, 10]⟩ : ByteArray)).data.toList = st2 by rw [bat_app]; exact hst2)
 have HB2 := Ho (show (s ++ (⟨#[13, 10]⟩ : ByteArray)).size ≤ 140737488355328 by rw [Go.Lib.size_eq, HBt.o]; omega)
 clear hst2
 go_enter Tryz.func51, Tryz.ntmps51
 go_wp2_with (with_reducible show wpList _ _ _ (⟨_, .convert 9 22 _, _, _, _, _⟩ :: _) _ _; refine Shut.out ?_)
 show wpList _ _ _ _ _ _
 refine wpList_conv rfl _ rfl (s ++ ⟨#[13, 10]⟩) HB2.o rfl ?_
 intro v2 w2 o2 u2
 rw [HBt.o] at o2
 obtain ⟨a2, c2, rfl⟩ : ∃ a2 c2, v2 = .slice a2 st2.length c2 := by
  obtain ⟨g, cap, cur, fr, e, _⟩ := o2
  exact ⟨_, _, e⟩
 have HO2 := Ho o2
 have HU2 := Ho u2
 clear o2 u2 hl1
 simp only [Act.put, pB, pC, pD]
 go_wp2
 go_loopw [7, 8] (fun v7 v8 wr => ∃ i : Nat, v8 = .int .i64 (i : Int) ∧ i ≤ fs.length ∧ ∃ q a7 c7, v7 = .slice a7 q c7 ∧ q ≤ 4194304 ∧ Hd (OwnM wr w.heap.size (.slice a7 q c7) (st2 ++ lbs (fs.take i)) ∧ Up w wr ∧ (st2 ++ lbs (fs.take i)).length = q)) (fun _ v8 _ => fs.length - (intOf v8).toNat)
 case atStart => exact ⟨0, rfl, Nat.zero_le _, st2.length, a2, c2, rfl, by omega, Ho ⟨by rw [List.take_zero]; show OwnM w2 w.heap.size _ (st2 ++ []); rw [List.append_nil]; exact HO2.o, HU2.o, by rw [List.take_zero]; show (st2 ++ []).length = _; rw [List.append_nil]⟩⟩
 case round =>
  obtain ⟨i, rfl, hi, q, a7, c7, rfl, hq, hU⟩ := hrel
  have HO := Ho hU.o.1
  have HU := Ho hU.o.2.1
  have HXq := Ho hU.o.2.2
  clear hU
  by_cases hil : i < fs.length
  · have hilz : (i : Int) < (fs.length : Int) := by omega
    obtain ⟨b, off, rfl, k1, k2⟩ := HF.o.cells i hil
    have HT := Ho (List.take_succ_eq_append_getElem hil)
    obtain ⟨f, hf⟩ := ny (fs[i])
    rw [hf] at k1 k2 HT
    have HK1 := Ho k1
    have HK2 := Ho k2
    have h5 := HZs.o (i + 1)
    rw [HT.o, szs_snoc] at h5
    have h6 := lbs_len (fs.take i)
    have h7 := HXq.o
    rw [List.length_append] at h7
    have HZf := Ho (show szf f = f.n.size + f.v.size + 4 from rfl)
    have h8 : szf f ≤ 1048576 := by omega
    have h9 : q + (lnb f).length ≤ 4194304 := by rw [lnb_len]; omega
    have hf1 : ¬ 9223372036854775807 < f.n.size + 2 := by have := HZf.o; omega
    have hf2 : ¬ 9223372036854775807 < f.n.size + 2 + f.v.size := by have := HZf.o; omega
    have hf3 : ¬ 9223372036854775807 < f.n.size + 2 + f.v.size + 2 := by have := HZf.o; omega
    obtain ⟨X, hX⟩ := ny (st2 ++ lbs (fs.take i))
    have HXe := Ho hX
    rw [hX] at HO HXq
    have HL8 := Ho (show (st2 ++ lbs (fs.take (i + 1))).length = q + (lnb f).length by rw [HT.o, lbs_snoc, ← List.append_assoc, hX, List.length_append, HXq.o])
    clear hf k1 k2 hX h5 h6 h7
    go_wp2
    refine wp_region_held_drew (S := fun w2 => Up w w2) (by kernel_rfl) HU.o.drew (fun hS => ?_)
    refine tN 0 (some 18) (.move (.tmp 7)) 22 (.slice a7 q c7) hS ?_
    simp only [pA, pB, pC, pD]
    refine tN 1 (some 19) (.move (.tmp 1)) 54 (.slice (some ⟨b, off, none⟩) fs.length c) hS ?_
    simp only [pA, pB, pC, pD]
    refine tN 2 (some 20) (.move (.tmp 8)) 3 (.int .i64 (i : Int)) hS ?_
    simp only [pA, pB, pC, pD]
    refine tK 3 (some 21) (.indexAddr 54 (.tmp 19) (.tmp 20)) 0 (.pointer (some ⟨b, off + i * 2, none⟩)) hS ?_ ?_
    · intro _ _ w5 hSw
      clear hSw hS
      exact exec_idxRf i hil rfl rfl rfl
    simp only [pA, pB, pC, pD]
    refine tN 4 (some 22) (.fieldAddr 102 (.tmp 21) 0) 0 (.pointer (some ⟨b, off + i * 2, none⟩)) hS ?_
    simp only [pA, pB, pC, pD]
    refine tK 5 (some 23) (.load 9 (.tmp 22)) 9 (.string f.n) hS ?_ ?_
    · intro _ _ w5 hSw
      have h0 := hSw.cell HK1.o
      clear hSw hS
      go_simp
    simp only [pA, pB, pC, pD]
    refine tN 6 (some 24) (.binOp .add 9 (.tmp 23) (.const (.string { data := #[58, 32] })) 9) 9 (.string (f.n ++ (⟨#[58, 32]⟩ : ByteArray))) hS ?_
    simp only [pA, pB, pC, pD]
    refine tN 7 (some 25) (.move (.tmp 1)) 54 (.slice (some ⟨b, off, none⟩) fs.length c) hS ?_
    simp only [pA, pB, pC, pD]
    refine tN 8 (some 26) (.move (.tmp 8)) 3 (.int .i64 (i : Int)) hS ?_
    simp only [pA, pB, pC, pD]
    refine tK 9 (some 27) (.indexAddr 54 (.tmp 25) (.tmp 26)) 0 (.pointer (some ⟨b, off + i * 2, none⟩)) hS ?_ ?_
    · intro _ _ w5 hSw
      clear hSw hS
      exact exec_idxRf i hil rfl rfl rfl
    simp only [pA, pB, pC, pD]
    refine tN 10 (some 28) (.fieldAddr 102 (.tmp 27) 1) 0 (.pointer (some ⟨b, off + i * 2 + 1, none⟩)) hS ?_
    simp only [pA, pB, pC, pD]
    refine tK 11 (some 29) (.load 9 (.tmp 28)) 9 (.string f.v) hS ?_ ?_
    · intro _ _ w5 hSw
      have h0 := hSw.cell HK2.o
      clear hSw hS
      go_simp
    simp only [pA, pB, pC, pD]
    refine tN 12 (some 30) (.binOp .add 9 (.tmp 24) (.tmp 29) 9) 9 (.string (f.n ++ (⟨#[58, 32]⟩ : ByteArray) ++ f.v)) hS ?_
    simp only [pA, pB, pC, pD]
    refine tN 13 (some 31) (.binOp .add 9 (.tmp 30) (.const (.string { data := #[13, 10] })) 9) 9 (.string (f.n ++ (⟨#[58, 32]⟩ : ByteArray) ++ f.v ++ (⟨#[13, 10]⟩ : ByteArray))) hS ?_
    simp only [pA, pB, pC, pD]
    refine rD 14 (some 32) (.call ⟨.builtin .append, #[.tmp 18, .tmp 31], #[22, 9]⟩) 22 fun _ _ K hK => oper_of_list ?_
    refine wpList_appM (w := wr.drew) rfl _ _ 9 rfl w.heap.size q a7 c7 _ X (lnb f) rfl (HO.o.up (Up.refl _).drew) HXq.o rfl (.inl Tryz.underlying9) (src_lnb _ f) (by rw [HXq.o, lnb_len]; have := HZf.o; omega) HU.o.drew.size ?_
    intro a8 c8 w8 o8 b8
    have HU8 := Ho (below_up b8 HU.o.drew (Nat.le_refl _))
    have HO8 := Ho (show OwnM w8 w.heap.size (.slice a8 (q + (lnb f).length) c8) (st2 ++ lbs (fs.take (i + 1))) by rw [HT.o, lbs_snoc, ← List.append_assoc, HXe.o]; exact o8)
    clear o8 b8
    refine hK.out _ _ HU8.o (fun hS => ?_)
    clear hK K
    simp only [Act.put, pB, pC, pD]
    refine tN 15 (some 7) (.assign (.tmp 32)) 22 (.slice a8 (q + (lnb f).length) c8) hS ?_
    simp only [pA, pB, pC, pD]
    clear hS
    refine wpAnyH_done (by kernel_rfl) ?_ _
    go_wp2
    go_roundw
    all_goals first
     | exact ⟨i + 1, by go_num, by omega, q + (lnb f).length, a8, c8, rfl, h9, Ho ⟨HO8.o, HU8.o, HL8.o⟩⟩
     | (simp [intOf]; omega)
  have hilz : ¬ (i : Int) < (fs.length : Int) := by omega
  obtain ⟨X, hX⟩ := ny (st2 ++ lbs (fs.take i))
  have HXe := Ho (show X ++ [13, 10] ++ bd = prt s.data.toList fs bd by rw [← hX, List.take_of_length_le (by omega), ← HSt.o]; rfl)
  rw [hX] at HO HXq
  clear hX
  go_wp2_with (with_reducible refine sA ?_)
  show wpList _ _ _ _ _ _
  refine wpList_appM rfl _ _ 9 rfl w.heap.size q a7 c7 _ X [13, 10] rfl HO.o HXq.o rfl (.inl Tryz.underlying9) (src_str wr ⟨#[13, 10]⟩) (by rw [HXq.o]; simp only [List.length_cons, List.length_nil]; omega) HU.o.size ?_
  intro a8 c8 w8 o8 b8
  have HU8 := Ho (below_up b8 HU.o (Nat.le_refl _))
  have HO8 := Ho o8
  clear o8 b8
  simp only [Act.put, pB, pC, pD]
  go_wp2_with (with_reducible refine sA ?_)
  show wpList _ _ _ _ _ _
  refine wpList_appM rfl _ _ 22 rfl w.heap.size _ a8 c8 _ (X ++ [13, 10]) bd rfl HO8.o (by rw [List.length_append, HXq.o]) rfl (.inr Tryz.underlying22) (src_sb (HB.o.up HU8.o)) (by rw [List.length_append, HXq.o]; simp only [List.length_cons, List.length_nil]; omega) HU8.o.size ?_
  intro a9 c9 w9 o9 b9
  have HU9 := Ho (below_up b9 HU8.o (Nat.le_refl _))
  have hll : q + ([13, 10] : List UInt8).length + bd.length = (prt s.data.toList fs bd).length := by rw [← HXe.o, List.length_append, List.length_append, HXq.o]
  rw [HXe.o, hll] at o9
  rw [hll]
  have HO9 := Ho o9.sb
  clear o9 b9 hll
  simp only [Act.put, pB, pC, pD]
  go_wp2
  go_ret
  exact ⟨⟨a9, c9, rfl, HO9⟩, HU9.o⟩
def bdy (n : Int) (l : List UInt8) : Er (List UInt8 × Nat) := if n = -2 then (match unk l with
  | .error k => .error (if k = 1 then 19 else k)
  | .ok p => .ok p) else if l.length < n.toNat then .error 2 else .ok (l.take n.toNat, n.toNat)
def Fsh (N : Nat) (v : Value) : Prop := ∀ g, v.ownBlock = some g → N ≤ g
theorem OwnM.fsh {w : World} {B : Nat} {v : Value} {l : List UInt8} (h : OwnM w B v l) : Fsh B v := by
 obtain ⟨g, cap, cur, fr, rfl, hB, _⟩ := h
 intro g' hg
 have e : (Value.slice (some ⟨g, 0, none⟩) l.length cap).ownBlock = some g := rfl
 rw [e] at hg
 injection hg with hg
 omega
theorem bdy_len {n : Int} {l b : List UInt8} {j : Nat} (h : bdy n l = .ok (b, j)) : j ≤ l.length := by
 unfold bdy at h
 split at h
 · cases hu : unk l with
   | error q => rw [hu] at h; cases h
   | ok p =>
    obtain ⟨b', j'⟩ := p
    rw [hu] at h
    injection h with h
    injection h with _ h
    subst h
    exact (unk_len hu).1
 split at h
 · cases h
 injection h with h
 injection h with _ h
 omega
def BoR (w w' : World) (e : Ending) : Er (List UInt8 × Nat) → Prop
 | .error k => e = .returned (.tuple #[.slice none 0 0, .int .i64 0, .int .i64 (numK k)])
 | .ok (b, n) => ∃ v, e = .returned (.tuple #[v, .int .i64 (n : Int), .int .i64 0]) ∧ Hd (Sb w' v b ∧ Fsh w.heap.size v)
set_option maxRecDepth 100000 in
set_option maxHeartbeats 2000000 in
theorem Rbody_chunks (s : ByteArray) (hs : s.size ≤ 1099511627000) (w : World) : Calls Tryz.prog 78 #[.string s, .int .i64 (-2)] w fun e w' => BoR w w' e (bdy (-2) s.data.toList) ∧ Up w w' := by
 have HZ := Ho (Go.Lib.size_eq s)
 obtain ⟨rv, hrv⟩ := ny (bdy (-2) s.data.toList)
 have HR := Ho (show rv = match unk s.data.toList with
  | .error k => .error (if k = 1 then 19 else k)
  | .ok p => .ok p from hrv.symm)
 rw [hrv]
 clear hrv
 go_enter Tryz.func78, Tryz.ntmps78
 go_wp2_with (with_reducible show wpList _ _ _ (⟨_, .convert 9 22 _, _, _, _, _⟩ :: _) _ _; refine Shut.out ?_)
 show wpList _ _ _ _ _ _
 refine wpList_conv rfl _ rfl s (by omega) rfl ?_
 intro v1 w1 hO1 hU1
 obtain ⟨g, cap, cur, fr, rfl, _⟩ := id hO1
 have HU1 := Ho hU1
 have HC := Ho (RUnchunk_walk (by rw [← HZ.o]; exact hs) w1 hO1.sb)
 clear hO1 hU1
 simp only [Act.put, pB, pC, pD]
 go_wp2_with fail
 refine HC.o.mono ?_
 rintro e w2 ⟨hR2, h9⟩
 have HU2 := Ho (HU1.o.trans h9)
 clear h9 HC
 cases hu : unk s.data.toList with
 | error k =>
  rw [hu] at hR2 HR
  obtain rfl : e = _ := hR2
  dsimp only at HR ⊢
  rcases unk_er hu with rfl | rfl | rfl | rfl
  all_goals
   clear hu
   go_wp2
   go_ret3
   rw [HR.o]
   exact ⟨rfl, HU2.o⟩
 | ok p =>
  obtain ⟨b, n⟩ := p
  rw [hu] at hR2 HR
  obtain ⟨v, rfl, hO⟩ := hR2
  have HO := Ho (show Sb w2 v b ∧ Fsh w.heap.size v from ⟨hO.o.sb, fun g hg => Nat.le_trans HU1.o.size (World.ownsRow.lt hO.o g hg).1⟩)
  clear hu hO
  dsimp only at HR ⊢
  go_wp2
  go_ret3
  rw [HR.o]
  exact ⟨⟨v, rfl, HO⟩, HU2.o⟩
set_option maxRecDepth 100000 in
set_option maxHeartbeats 2000000 in
theorem Rbody_some (s : ByteArray) (n : Nat) (hn : n ≤ 1099511627000) (w : World) : Calls Tryz.prog 78 #[.string s, .int .i64 (n : Int)] w fun e w' => BoR w w' e (bdy (n : Int) s.data.toList) ∧ Up w w' := by
 have HZ := Ho (Go.Lib.size_eq s)
 obtain ⟨rv, hrv⟩ := ny (bdy (n : Int) s.data.toList)
 have HR := Ho (show rv = if s.size < n then .error 2 else .ok (s.data.toList.take n, n) by
  rw [← hrv, HZ.o]
  unfold bdy
  rw [if_neg (by omega), Int.toNat_natCast])
 rw [hrv]
 clear hrv
 have hn2 : ((n : Int) == -2) = false := by rw [beq_eq_false_iff_ne]; omega
 by_cases hlt : s.size < n
 · have hz : (s.size : Int) < (n : Int) := by omega
   rw [if_pos hlt] at HR
   go_enter Tryz.func78, Tryz.ntmps78
   go_wp2
   go_ret3
   rw [HR.o]
   exact ⟨rfl, Up.refl _⟩
 have hz : ¬ (s.size : Int) < (n : Int) := by omega
 rw [if_neg hlt] at HR
 have hz2 : (n : Int) ≤ (s.size : Int) := by omega
 have HX := Ho (Go.Lib.extract_from_zero s n)
 have hXz : (s.extract 0 n).size ≤ 140737488355328 := by rw [ByteArray.size_extract]; omega
 go_enter Tryz.func78, Tryz.ntmps78
 go_wp2_with (with_reducible show wpList _ _ _ (⟨_, .convert 9 22 _, _, _, _, _⟩ :: _) _ _; refine Shut.out ?_)
 show wpList _ _ _ _ _ _
 refine wpList_conv rfl _ rfl (s.extract 0 n) hXz rfl ?_
 intro v1 w1 hO1 hU1
 have HU1 := Ho hU1
 have HS1 := Ho (show Sb w1 v1 (s.data.toList.take n) ∧ Fsh w.heap.size v1 from ⟨by rw [← HX.o]; exact hO1.sb, hO1.fsh⟩)
 clear hO1 hU1
 simp only [Act.put, pB, pC, pD]
 go_wp2
 go_ret3
 rw [HR.o]
 exact ⟨⟨v1, rfl, HS1⟩, HU1.o⟩
theorem results_tmp4 {fn : Func} {t u v x : Tmp} (h : fn.results = #[.tmp t, .tmp u, .tmp v, .tmp x]) (tmps : Array Value) (P : Program) (w : World) :
  (results fn tmps).run P w = .ok (.tuple #[tmps.getD t undef, tmps.getD u undef, tmps.getD v undef, tmps.getD x undef]) w := by
 simp [results, h]
def slV (l : List UInt8) : Value := if sok l = true then .tuple #[.int .i64 (vrs (l.take 8)).1, .int .i64 (vrs (l.take 8)).2, .int .i64 (stn l : Int), .bool (decide (0 ≤ (vrs (l.take 8)).1))] else .tuple #[.int .i64 0, .int .i64 0, .int .i64 0, .bool false]
set_option maxRecDepth 100000 in
set_option maxHeartbeats 4000000 in
theorem RstatusLine_walk (s : ByteArray) (hs : s.size ≤ 1099511627776) (w : World) : Calls Tryz.prog 80 #[.string s] w fun e w' => e = .returned (slV s.data.toList) ∧ Up w w' := by
 have HS := Ho (Go.Lib.size_eq s)
 obtain ⟨rv, hrv⟩ := ny (slV s.data.toList)
 have HR := Ho hrv
 rw [hrv]
 clear hrv
 have HNo := Ho (show sok s.data.toList = false → rv = .tuple #[.int .i64 0, .int .i64 0, .int .i64 0, .bool false] from fun h => by
  rw [← HR.o]
  unfold slV
  rw [h]
  rfl)
 by_cases h12 : s.size < 12
 · have h12z : (s.size : Int) < 12 := by omega
   have HE := Ho (HNo.o (by unfold sok; rw [decide_eq_false (by rw [← HS.o]; omega)]; rfl))
   go_enter Tryz.func80, Tryz.ntmps80
   go_wp2
   refine bodyPost_ret (results_tmp4 rfl _ _ _) rfl ?_
   rw [HE.o]
   exact ⟨rfl, Up.refl _⟩
 have h12z : ¬ (s.size : Int) < 12 := by omega
 have hL12 : 12 ≤ s.data.toList.length := by rw [← HS.o]; omega
 have g : ∀ i (hi : i < s.data.toList.length), s.data.toList.getD i 0 = s.data.toList[i] := fun i hi => by rw [List.getD_eq_getElem?_getD, List.getElem?_eq_getElem hi]; rfl
 have HSk := Ho (show sok s.data.toList = (((s.data.toList[8]'(by omega)) == 32 && (isD (s.data.toList[9]'(by omega)) && (isD (s.data.toList[10]'(by omega)) && isD (s.data.toList[11]'(by omega))))) && (decide (s.data.toList.length = 12) || (s.data.toList.getD 12 0 == 32 && vlu (s.data.toList.drop 12)))) by
  unfold sok
  rw [decide_eq_true hL12, g 8 (by omega), g 9 (by omega), g 10 (by omega), g 11 (by omega)]
  simp)
 have HSn := Ho (show (isD (s.data.toList[9]'(by omega)) = true) → (isD (s.data.toList[10]'(by omega)) = true) → (isD (s.data.toList[11]'(by omega)) = true) → (stn s.data.toList : Int) = 100 * (((s.data.toList[9]'(by omega)).toNat : Int) - 48) + 10 * (((s.data.toList[10]'(by omega)).toNat : Int) - 48) + (((s.data.toList[11]'(by omega)).toNat : Int) - 48) from fun h1 h2 h3 => by
  unfold stn
  rw [g 9 (by omega), g 10 (by omega), g 11 (by omega)]
  have k1 := isD_nat h1
  have k2 := isD_nat h2
  have k3 := isD_nat h3
  omega)
 have hg8 := sget' s 8 (by omega)
 have hg9 := sget' s 9 (by omega)
 have hg10 := sget' s 10 (by omega)
 have hg11 := sget' s 11 (by omega)
 generalize s.data.toList[8]'(by omega) = x8 at *
 generalize s.data.toList[9]'(by omega) = x9 at *
 generalize s.data.toList[10]'(by omega) = x10 at *
 generalize s.data.toList[11]'(by omega) = x11 at *
 have HYes := Ho (show sok s.data.toList = true → rv = .tuple #[.int .i64 (vrs (s.data.toList.take 8)).1, .int .i64 (vrs (s.data.toList.take 8)).2, .int .i64 (stn s.data.toList : Int), .bool (decide (0 ≤ (vrs (s.data.toList.take 8)).1))] from fun h => by
  rw [← HR.o]
  unfold slV
  rw [h]
  rfl)
 have HVr := Ho (show ∀ w, Calls Tryz.prog 75 #[.string (s.extract 0 8)] w fun e w' => e = .returned (.tuple #[.int .i64 (vrs (s.data.toList.take 8)).1, .int .i64 (vrs (s.data.toList.take 8)).2]) ∧ Up w w' from fun w => by
  have h := Rversion_walk (s.extract 0 8) w
  rw [Go.Lib.extract_from_zero] at h
  exact h)
 generalize vrs (s.data.toList.take 8) = vv at *
 clear HR g hL12
 by_cases h8 : x8 = 32
 · subst h8
   go_enter Tryz.func80, Tryz.ntmps80
   go_wp2_with fail
   refine (Rdigit_walk x9 w).mono ?_
   rintro e w9 ⟨rfl, h9⟩
   obtain rfl := h9.symm
   clear h9
   dsimp only
   cases h9 : isD x9 with
   | false =>
    have HE := Ho (HNo.o (by rw [HSk.o, h9]; simp))
    go_wp2
    refine bodyPost_ret (results_tmp4 rfl _ _ _) rfl ?_
    rw [HE.o]
    exact ⟨rfl, Up.refl _⟩
   | true =>
    go_wp2_with fail
    refine (Rdigit_walk x10 w).mono ?_
    rintro e w9 ⟨rfl, h9⟩
    obtain rfl := h9.symm
    clear h9
    dsimp only
    cases h10 : isD x10 with
    | false =>
     have HE := Ho (HNo.o (by rw [HSk.o, h10]; simp))
     go_wp2
     refine bodyPost_ret (results_tmp4 rfl _ _ _) rfl ?_
     rw [HE.o]
     exact ⟨rfl, Up.refl _⟩
    | true =>
     go_wp2_with fail
     refine (Rdigit_walk x11 w).mono ?_
     rintro e w9 ⟨rfl, h9⟩
     obtain rfl := h9.symm
     clear h9
     dsimp only
     cases h11 : isD x11 with
     | false =>
      have HE := Ho (HNo.o (by rw [HSk.o, h11]; simp))
      go_wp2
      refine bodyPost_ret (results_tmp4 rfl _ _ _) rfl ?_
      rw [HE.o]
      exact ⟨rfl, Up.refl _⟩
     | true =>
      have k9 := isD_nat h9
      have k10 := isD_nat h10
      have k11 := isD_nat h11
      have HSt := Ho (HSn.o h9 h10 h11)
      have hwa9 : IntKind.u8.wrap ((x9.toNat : Int) - 48) = (x9.toNat : Int) - 48 := wrapu8 _ (by omega) (by omega)
      have hwb9 : IntKind.i64.wrap ((x9.toNat : Int) - 48) = (x9.toNat : Int) - 48 := wrapk _ (by omega) (by omega)
      have hwa10 : IntKind.u8.wrap ((x10.toNat : Int) - 48) = (x10.toNat : Int) - 48 := wrapu8 _ (by omega) (by omega)
      have hwb10 : IntKind.i64.wrap ((x10.toNat : Int) - 48) = (x10.toNat : Int) - 48 := wrapk _ (by omega) (by omega)
      have hwa11 : IntKind.u8.wrap ((x11.toNat : Int) - 48) = (x11.toNat : Int) - 48 := wrapu8 _ (by omega) (by omega)
      have hwb11 : IntKind.i64.wrap ((x11.toNat : Int) - 48) = (x11.toNat : Int) - 48 := wrapk _ (by omega) (by omega)
      have hwc : IntKind.i64.wrap (100 * ((x9.toNat : Int) - 48)) = (100 * ((x9.toNat : Int) - 48)) := wrapk _ (by omega) (by omega)
      have hwd : IntKind.i64.wrap (10 * ((x10.toNat : Int) - 48)) = (10 * ((x10.toNat : Int) - 48)) := wrapk _ (by omega) (by omega)
      have hwe : IntKind.i64.wrap ((100 * ((x9.toNat : Int) - 48)) + (10 * ((x10.toNat : Int) - 48))) = ((100 * ((x9.toNat : Int) - 48)) + (10 * ((x10.toNat : Int) - 48))) := wrapk _ (by omega) (by omega)
      have hwf : IntKind.i64.wrap (((100 * ((x9.toNat : Int) - 48)) + (10 * ((x10.toNat : Int) - 48))) + ((x11.toNat : Int) - 48)) = (((100 * ((x9.toNat : Int) - 48)) + (10 * ((x10.toNat : Int) - 48))) + ((x11.toNat : Int) - 48)) := wrapk _ (by omega) (by omega)
      have q9 : ¬ (s.size : Int) ≤ 9 := by omega
      have q10 : ¬ (s.size : Int) ≤ 10 := by omega
      have q11 : ¬ (s.size : Int) ≤ 11 := by omega
      by_cases hgt : 12 < s.size
      · have hgtz : (12 : Int) < (s.size : Int) := by omega
        have hL : 12 < s.data.toList.length := by rw [← HS.o]; exact hgt
        have hg12 := sget' s 12 hgt
        have HSk2 := Ho (show sok s.data.toList = ((s.data.toList[12]'hL) == 32 && vlu (s.data.toList.drop 12)) by
         rw [HSk.o, h9, h10, h11, decide_eq_false (show ¬ s.data.toList.length = 12 by omega), List.getD_eq_getElem?_getD, List.getElem?_eq_getElem hL]
         rfl)
        have HVl := Ho (show ∀ w, Calls Tryz.prog 95 #[.string (s.extract 12 s.size)] w fun e w' => e = .returned (.bool (vlu (s.data.toList.drop 12))) ∧ Up w w' from fun w => by
         have h := Rvalued_walk (s.extract 12 s.size) (by rw [ByteArray.size_extract]; omega) w
         rw [extr_drop] at h
         exact h)
        generalize s.data.toList[12]'hL = x12 at *
        clear hL
        generalize hvl : vlu (s.data.toList.drop 12) = bv at *
        clear hvl
        by_cases h12' : x12 = 32
        · subst h12'
          go_wp2_with fail
          refine (HVl.o _).mono ?_
          rintro e w2 ⟨rfl, h9'⟩
          have HU2 := Ho h9'
          clear h9' HVl
          dsimp only
          cases bv with
          | false =>
           have HE := Ho (HNo.o (by rw [HSk2.o]; simp))
           go_wp2
           refine bodyPost_ret (results_tmp4 rfl _ _ _) rfl ?_
           rw [HE.o]
           exact ⟨rfl, HU2.o⟩
          | true =>
           have HE := Ho (HYes.o (by rw [HSk2.o]; rfl))
           rw [HSt.o] at HE
           go_wp2_with fail
           refine (HVr.o _).mono ?_
           rintro e w3 ⟨rfl, h9⟩
           have HU3 := Ho (Up.trans HU2.o h9)
           clear h9 HVr
           dsimp only
           obtain ⟨mj, hmj⟩ := ny vv.1
           obtain ⟨mi, hmi⟩ := ny vv.2
           rw [hmj, hmi]
           rw [hmj, hmi] at HE
           clear hmj hmi
           go_wp2
           refine wp_region_held_drew (S := fun w2 => Up w w2) (by kernel_rfl) HU3.o.drew (fun hS => ?_)
           refine tN 0 (some 54) (.move (.tmp 6)) 3 (.int .i64 mj) hS ?_
           simp only [Act.put, pB, pC, pD]
           refine tN 1 (some 55) (.move (.tmp 7)) 3 (.int .i64 mi) hS ?_
           simp only [pA, pB, pC, pD]
           refine tN 2 (some 56) (.move (.tmp 0)) 9 (.string s) hS ?_
           simp only [pA, pB, pC, pD]
           refine tN 3 (some 57) (.index 9 (.tmp 56) (.const (.int .i64 9))) 5 (.int .u8 (x9.toNat : Int)) hS ?_
           simp only [pA, pB, pC, pD]
           refine tN 4 (some 58) (.binOp .sub 5 (.tmp 57) (.const (.int .u8 48)) 5) 5 (.int .u8 ((x9.toNat : Int) - 48)) hS ?_
           simp only [pA, pB, pC, pD]
           refine tN 5 (some 59) (.convert 5 3 (.tmp 58)) 3 (.int .i64 ((x9.toNat : Int) - 48)) hS ?_
           simp only [pA, pB, pC, pD]
           refine tN 6 (some 60) (.binOp .mul 3 (.const (.int .i64 100)) (.tmp 59) 3) 3 (.int .i64 (100 * ((x9.toNat : Int) - 48))) hS ?_
           simp only [pA, pB, pC, pD]
           refine tN 7 (some 61) (.move (.tmp 0)) 9 (.string s) hS ?_
           simp only [pA, pB, pC, pD]
           refine tN 8 (some 62) (.index 9 (.tmp 61) (.const (.int .i64 10))) 5 (.int .u8 (x10.toNat : Int)) hS ?_
           simp only [pA, pB, pC, pD]
           refine tN 9 (some 63) (.binOp .sub 5 (.tmp 62) (.const (.int .u8 48)) 5) 5 (.int .u8 ((x10.toNat : Int) - 48)) hS ?_
           simp only [pA, pB, pC, pD]
           refine tN 10 (some 64) (.convert 5 3 (.tmp 63)) 3 (.int .i64 ((x10.toNat : Int) - 48)) hS ?_
           simp only [pA, pB, pC, pD]
           refine tN 11 (some 65) (.binOp .mul 3 (.const (.int .i64 10)) (.tmp 64) 3) 3 (.int .i64 (10 * ((x10.toNat : Int) - 48))) hS ?_
           simp only [pA, pB, pC, pD]
           refine tN 12 (some 66) (.binOp .add 3 (.tmp 60) (.tmp 65) 3) 3 (.int .i64 ((100 * ((x9.toNat : Int) - 48)) + (10 * ((x10.toNat : Int) - 48)))) hS ?_
           simp only [pA, pB, pC, pD]
           refine tN 13 (some 67) (.move (.tmp 0)) 9 (.string s) hS ?_
           simp only [pA, pB, pC, pD]
           refine tN 14 (some 68) (.index 9 (.tmp 67) (.const (.int .i64 11))) 5 (.int .u8 (x11.toNat : Int)) hS ?_
           simp only [pA, pB, pC, pD]
           refine tN 15 (some 69) (.binOp .sub 5 (.tmp 68) (.const (.int .u8 48)) 5) 5 (.int .u8 ((x11.toNat : Int) - 48)) hS ?_
           simp only [pA, pB, pC, pD]
           refine tN 16 (some 70) (.convert 5 3 (.tmp 69)) 3 (.int .i64 ((x11.toNat : Int) - 48)) hS ?_
           simp only [pA, pB, pC, pD]
           refine tN 17 (some 71) (.binOp .add 3 (.tmp 66) (.tmp 70) 3) 3 (.int .i64 (((100 * ((x9.toNat : Int) - 48)) + (10 * ((x10.toNat : Int) - 48))) + ((x11.toNat : Int) - 48))) hS ?_
           simp only [pA, pB, pC, pD]
           refine tN 18 (some 72) (.move (.tmp 6)) 3 (.int .i64 mj) hS ?_
           simp only [pA, pB, pC, pD]
           refine tN 19 (some 73) (.binOp .geq 3 (.tmp 72) (.const (.int .i64 0)) 3) 4 (.bool (decide (0 ≤ mj))) hS ?_
           simp only [pA, pB, pC, pD]
           refine tN 20 (some 2) (.assign (.tmp 54)) 3 (.int .i64 mj) hS ?_
           simp only [pA, pB, pC, pD]
           refine tN 21 (some 3) (.assign (.tmp 55)) 3 (.int .i64 mi) hS ?_
           simp only [pA, pB, pC, pD]
           refine tN 22 (some 4) (.assign (.tmp 71)) 3 (.int .i64 (((100 * ((x9.toNat : Int) - 48)) + (10 * ((x10.toNat : Int) - 48))) + ((x11.toNat : Int) - 48))) hS ?_
           simp only [pA, pB, pC, pD]
           refine tN 23 (some 5) (.assign (.tmp 73)) 4 (.bool (decide (0 ≤ mj))) hS ?_
           simp only [pA, pB, pC, pD]
           clear hS
           refine wpAnyH_done (by kernel_rfl) ?_ _
           go_wp2
           refine bodyPost_ret (results_tmp4 rfl _ _ _) rfl ?_
           rw [HE.o]
           exact ⟨rfl, HU3.o.drew⟩
        have h12z' := neU (k := 32) rfl h12'
        have HE := Ho (HNo.o (by rw [HSk2.o, show (x12 == 32) = false by simpa using h12']; rfl))
        go_wp2
        refine bodyPost_ret (results_tmp4 rfl _ _ _) rfl ?_
        rw [HE.o]
        exact ⟨rfl, Up.refl _⟩
      have hgtz : ¬ (12 : Int) < (s.size : Int) := by omega
      have HE := Ho (HYes.o (by
       rw [HSk.o, h9, h10, h11, decide_eq_true (show s.data.toList.length = 12 by rw [← HS.o]; omega)]
       rfl))
      rw [HSt.o] at HE
      go_wp2_with fail
      refine (HVr.o _).mono ?_
      rintro e w3 ⟨rfl, h9⟩
      have HU3 := Ho (Up.trans (Up.refl _) h9)
      clear h9 HVr
      dsimp only
      obtain ⟨mj, hmj⟩ := ny vv.1
      obtain ⟨mi, hmi⟩ := ny vv.2
      rw [hmj, hmi]
      rw [hmj, hmi] at HE
      clear hmj hmi
      go_wp2
      refine wp_region_held_drew (S := fun w2 => Up w w2) (by kernel_rfl) HU3.o.drew (fun hS => ?_)
      refine tN 0 (some 54) (.move (.tmp 6)) 3 (.int .i64 mj) hS ?_
      simp only [pA, pB, pC, pD]
      refine tN 1 (some 55) (.move (.tmp 7)) 3 (.int .i64 mi) hS ?_
      simp only [pA, pB, pC, pD]
      refine tN 2 (some 56) (.move (.tmp 0)) 9 (.string s) hS ?_
      simp only [pA, pB, pC, pD]
      refine tN 3 (some 57) (.index 9 (.tmp 56) (.const (.int .i64 9))) 5 (.int .u8 (x9.toNat : Int)) hS ?_
      simp only [pA, pB, pC, pD]
      refine tN 4 (some 58) (.binOp .sub 5 (.tmp 57) (.const (.int .u8 48)) 5) 5 (.int .u8 ((x9.toNat : Int) - 48)) hS ?_
      simp only [pA, pB, pC, pD]
      refine tN 5 (some 59) (.convert 5 3 (.tmp 58)) 3 (.int .i64 ((x9.toNat : Int) - 48)) hS ?_
      simp only [pA, pB, pC, pD]
      refine tN 6 (some 60) (.binOp .mul 3 (.const (.int .i64 100)) (.tmp 59) 3) 3 (.int .i64 (100 * ((x9.toNat : Int) - 48))) hS ?_
      simp only [pA, pB, pC, pD]
      refine tN 7 (some 61) (.move (.tmp 0)) 9 (.string s) hS ?_
      simp only [pA, pB, pC, pD]
      refine tN 8 (some 62) (.index 9 (.tmp 61) (.const (.int .i64 10))) 5 (.int .u8 (x10.toNat : Int)) hS ?_
      simp only [pA, pB, pC, pD]
      refine tN 9 (some 63) (.binOp .sub 5 (.tmp 62) (.const (.int .u8 48)) 5) 5 (.int .u8 ((x10.toNat : Int) - 48)) hS ?_
      simp only [pA, pB, pC, pD]
      refine tN 10 (some 64) (.convert 5 3 (.tmp 63)) 3 (.int .i64 ((x10.toNat : Int) - 48)) hS ?_
      simp only [pA, pB, pC, pD]
      refine tN 11 (some 65) (.binOp .mul 3 (.const (.int .i64 10)) (.tmp 64) 3) 3 (.int .i64 (10 * ((x10.toNat : Int) - 48))) hS ?_
      simp only [pA, pB, pC, pD]
      refine tN 12 (some 66) (.binOp .add 3 (.tmp 60) (.tmp 65) 3) 3 (.int .i64 ((100 * ((x9.toNat : Int) - 48)) + (10 * ((x10.toNat : Int) - 48)))) hS ?_
      simp only [pA, pB, pC, pD]
      refine tN 13 (some 67) (.move (.tmp 0)) 9 (.string s) hS ?_
      simp only [pA, pB, pC, pD]
      refine tN 14 (some 68) (.index 9 (.tmp 67) (.const (.int .i64 11))) 5 (.int .u8 (x11.toNat : Int)) hS ?_
      simp only [pA, pB, pC, pD]
      refine tN 15 (some 69) (.binOp .sub 5 (.tmp 68) (.const (.int .u8 48)) 5) 5 (.int .u8 ((x11.toNat : Int) - 48)) hS ?_
      simp only [pA, pB, pC, pD]
      refine tN 16 (some 70) (.convert 5 3 (.tmp 69)) 3 (.int .i64 ((x11.toNat : Int) - 48)) hS ?_
      simp only [pA, pB, pC, pD]
      refine tN 17 (some 71) (.binOp .add 3 (.tmp 66) (.tmp 70) 3) 3 (.int .i64 (((100 * ((x9.toNat : Int) - 48)) + (10 * ((x10.toNat : Int) - 48))) + ((x11.toNat : Int) - 48))) hS ?_
      simp only [pA, pB, pC, pD]
      refine tN 18 (some 72) (.move (.tmp 6)) 3 (.int .i64 mj) hS ?_
      simp only [pA, pB, pC, pD]
      refine tN 19 (some 73) (.binOp .geq 3 (.tmp 72) (.const (.int .i64 0)) 3) 4 (.bool (decide (0 ≤ mj))) hS ?_
      simp only [pA, pB, pC, pD]
      refine tN 20 (some 2) (.assign (.tmp 54)) 3 (.int .i64 mj) hS ?_
      simp only [pA, pB, pC, pD]
      refine tN 21 (some 3) (.assign (.tmp 55)) 3 (.int .i64 mi) hS ?_
      simp only [pA, pB, pC, pD]
      refine tN 22 (some 4) (.assign (.tmp 71)) 3 (.int .i64 (((100 * ((x9.toNat : Int) - 48)) + (10 * ((x10.toNat : Int) - 48))) + ((x11.toNat : Int) - 48))) hS ?_
      simp only [pA, pB, pC, pD]
      refine tN 23 (some 5) (.assign (.tmp 73)) 4 (.bool (decide (0 ≤ mj))) hS ?_
      simp only [pA, pB, pC, pD]
      clear hS
      refine wpAnyH_done (by kernel_rfl) ?_ _
      go_wp2
      refine bodyPost_ret (results_tmp4 rfl _ _ _) rfl ?_
      rw [HE.o]
      exact ⟨rfl, HU3.o.drew⟩
 have h8z := neU (k := 32) rfl h8
 have HE := Ho (HNo.o (by rw [HSk.o, show (x8 == 32) = false by simpa using h8]; rfl))
 go_enter Tryz.func80, Tryz.ntmps80
 go_wp2
 refine bodyPost_ret (results_tmp4 rfl _ _ _) rfl ?_
 rw [HE.o]
 exact ⟨rfl, Up.refl _⟩
def ChR (w w' : World) (e : Ending) : Er (List UInt8 × List (List UInt8) × Nat) → Prop
 | .error k => ∃ a n c, e = .returned (.tuple #[.string ⟨#[]⟩, .slice a n c, .int .i64 0, .int .i64 (numK k)])
 | .ok (st, ls, k) => ∃ a2 c2, e = .returned (.tuple #[vs st, .slice a2 ls.length c2, .int .i64 (k : Int), .int .i64 0]) ∧ Hd (StO w' w.heap.size a2 (bts ls) c2)
def rfA (L : List UInt8) (k : Nat) : Option (List (List UInt8) × Nat × Nat) := rfl' ((L.drop k).length + 1) (L.drop k)
theorem rfA_step (L : List UInt8) (k : Nat) : rfA L k = match fnl (L.drop k) with
  | none => none
  | some i => if tcr ((L.drop k).take i) = [] then some ([], 0, i + 1) else (rfA L (k + i + 1)).map fun p => (tcr ((L.drop k).take i) :: p.1, i + 1 + p.2.1, i + 1 + p.2.2) := by
 have key : rfA L k = rfl' ((L.drop k).length + 1) (L.drop k) := rfl
 rw [key, rfl']
 cases hf : fnl (L.drop k) with
 | none => rfl
 | some i =>
  have hi := fnl_lt hf
  rw [List.length_drop] at hi
  dsimp only
  unfold rfA
  rw [List.drop_drop, show k + (i + 1) = k + i + 1 by omega, rfl'_fuel ((L.drop k).length) ((L.drop (k + i + 1)).length + 1) (L.drop (k + i + 1)) (by rw [List.length_drop, List.length_drop]; omega) (by omega)]
set_option maxRecDepth 100000 in
set_option maxHeartbeats 8000000 in
theorem RcutHead_walk (s : ByteArray) (pl : Nat) (hpl : pl < 12) (lg : Int) (hlg : lg = nums pl) (hs : s.size ≤ 1099511627000) (w : World) : Calls Tryz.prog 73 #[.string s, .int .i64 lg] w fun e w' => ChR w w' e (rHd pl s.data.toList) ∧ Up w w' := by
 have HZ := Ho (Go.Lib.size_eq s)
 have HLg := Ho (show numK (12 + pl) = lg by unfold numK; rw [if_neg (by omega), show 12 + pl - 12 = pl by omega]; exact hlg.symm)
 clear hlg hpl
 obtain ⟨L, hL⟩ := ny s.data.toList
 have HL := Ho hL
 rw [hL] at HZ ⊢
 clear hL
 obtain ⟨rv, hrv⟩ := ny (rHd pl L)
 have HR := Ho hrv
 unfold rHd at HR
 rw [hrv]
 clear hrv
 have HLn := Ho (RlineAt_walk s 0 (by omega) (by omega) w)
 rw [HL.o] at HLn
 have HA : Hd (lnA L 0 = match fnl L with | none => ([], -1) | some i => (tcr (L.take i), ((0 + i + 1 : Nat) : Int))) := Ho rfl
 cases hf : fnl L with
 | none =>
  rw [hf] at HR HA
  dsimp only at HR HA
  rw [HA.o] at HLn
  dsimp only at HLn
  clear hf HA
  go_enter Tryz.func73, Tryz.ntmps73
  go_wp2_with fail
  refine HLn.o.mono ?_
  rintro e w2 ⟨rfl, h9⟩
  have HU2 := Ho h9
  clear h9 HLn
  dsimp only
  by_cases h : s.size < 8002
  · have hz : ¬ (8001 : Int) < (s.size : Int) := by omega
    rw [if_pos (by rw [← HZ.o]; exact h)] at HR
    go_wp2
    refine bodyPost_ret (results_tmp4 rfl _ _ _) rfl ?_
    rw [← HR.o]
    exact ⟨⟨_, _, _, rfl⟩, HU2.o⟩
  have hz : (8001 : Int) < (s.size : Int) := by omega
  rw [if_neg (by rw [← HZ.o]; exact h)] at HR
  go_wp2
  refine bodyPost_ret (results_tmp4 rfl _ _ _) rfl ?_
  rw [← HR.o]
  refine ⟨⟨none, 0, 0, ?_⟩, HU2.o⟩
  rw [HLg.o]
  rfl
 | some i =>
  have hil := fnl_lt hf
  rw [← HZ.o] at hil
  rw [hf] at HR HA
  dsimp only at HR HA
  rw [HA.o] at HLn
  dsimp only at HLn
  have hlen := tcr_len (L.take i)
  rw [List.length_take] at hlen
  generalize tcr (L.take i) = ln at *
  obtain ⟨b0, hb0⟩ := ny (i + 1)
  rw [show 0 + i + 1 = b0 by omega] at HLn
  rw [hb0] at HR
  have hbs : b0 ≤ s.size := by omega
  obtain ⟨X, hX⟩ := ny (⟨ln.toArray⟩ : ByteArray)
  have HXl := Ho (show X.data.toList = ln by rw [← hX])
  have HXz := Ho (show X.size = ln.length by rw [Go.Lib.size_eq, HXl.o])
  have hXz : X.size ≤ s.size := by rw [HXz.o]; omega
  have hvX : vs ln = .string X := by rw [← hX]
  rw [hvX] at HLn
  have HvX := Ho hvX
  clear hX hvX hlen hf hil hb0 HA HXl
  go_enter Tryz.func73, Tryz.ntmps73
  go_wp2_with fail
  refine HLn.o.mono ?_
  rintro e w2 ⟨rfl, h9⟩
  have HU2 := Ho h9
  clear h9 HLn
  dsimp only
  have hbz : ¬ (b0 : Int) < 0 := by omega
  by_cases h8 : 8000 < X.size
  · have h8z : (8000 : Int) < (X.size : Int) := by omega
    rw [if_pos (by rw [← HXz.o]; exact h8)] at HR
    go_wp2
    refine bodyPost_ret (results_tmp4 rfl _ _ _) rfl ?_
    rw [← HR.o]
    refine ⟨⟨none, 0, 0, ?_⟩, HU2.o⟩
    rw [HLg.o]
    rfl
  have h8z : ¬ (8000 : Int) < (X.size : Int) := by omega
  rw [if_neg (by rw [← HXz.o]; exact h8)] at HR
  have HR2 := Ho (show rv = match rfA L b0 with
   | none => if 16384 < s.size - b0 then .error 1 else .error 2
   | some (ls, _, a) => if 16384 < a then .error 1 else .ok (ln, ls, b0 + a) by
     rw [← HR.o, HZ.o, List.length_drop]
     rfl)
  clear HR
  go_wp2
  go_loopw [8, 10] (fun v8 v10 wr => ∃ (k q : Nat) (a7 : Option Addr) (c7 : Nat), v10 = .int .i64 (k : Int) ∧ v8 = .slice a7 q c7 ∧ b0 ≤ k ∧ k ≤ s.size ∧ q ≤ k ∧ Hd (∃ d, d.length = q ∧ StO wr w.heap.size a7 (bts d) c7 ∧ Up w wr ∧ rfA L b0 = (rfA L k).map fun p => (d ++ p.1, (k - b0) + p.2.1, (k - b0) + p.2.2))) (fun _ v10 _ => s.size - (intOf v10).toNat)
  case atStart =>
   refine ⟨b0, 0, none, 0, rfl, rfl, Nat.le_refl _, hbs, Nat.zero_le _, Ho ⟨[], rfl, World.ownsRow_nil _ _ _ _, HU2.o, ?_⟩⟩
   cases rfA L b0 with
   | none => rfl
   | some p => simp
  case round =>
   obtain ⟨k, q, a7, c7, rfl, rfl, hbk, hks, hqk, hU⟩ := hrel
   obtain ⟨d, hdl, hO, hUp, hrf⟩ := hU.o
   have HO := Ho hO
   have HU := Ho hUp
   have HD := Ho (show (bts d).length = q by rw [bts_len]; exact hdl)
   have HF := Ho (hrf.trans (congrArg (Option.map fun p => (d ++ p.1, (k - b0) + p.2.1, (k - b0) + p.2.2)) (rfA_step L k)))
   clear hU hO hUp hdl hrf
   have HLn := Ho (RlineAt_walk s k (by omega) (by omega) wr)
   rw [HL.o] at HLn
   have HA : Hd (lnA L k = match fnl (L.drop k) with | none => ([], -1) | some i => (tcr ((L.drop k).take i), ((k + i + 1 : Nat) : Int))) := Ho rfl
   cases hf : fnl (L.drop k) with
   | none =>
    rw [hf] at HF HA
    dsimp only at HF HA
    rw [HA.o] at HLn
    dsimp only at HLn
    have HR3 := Ho (show rv = if 16384 < s.size - b0 then .error 1 else .error 2 by rw [HR2.o, HF.o]; rfl)
    go_wp2_with fail
    refine HLn.o.mono ?_
    rintro e w3 ⟨rfl, h9⟩
    have HU3 := Ho (HU.o.trans h9)
    clear h9 HLn HA hf HF
    dsimp only
    by_cases h16 : 16384 < s.size - b0
    · have hz : (16384 : Int) < (s.size : Int) - (b0 : Int) := by omega
      rw [if_pos h16] at HR3
      go_wp2
      refine bodyPost_ret (results_tmp4 rfl _ _ _) rfl ?_
      rw [HR3.o]
      exact ⟨⟨a7, q, c7, rfl⟩, HU3.o⟩
    have hz : ¬ (16384 : Int) < (s.size : Int) - (b0 : Int) := by omega
    rw [if_neg h16] at HR3
    go_wp2
    refine bodyPost_ret (results_tmp4 rfl _ _ _) rfl ?_
    rw [HR3.o]
    exact ⟨⟨a7, q, c7, rfl⟩, HU3.o⟩
   | some i =>
    have hil := fnl_lt hf
    rw [List.length_drop, ← HZ.o] at hil
    rw [hf] at HF HA
    dsimp only at HF HA
    rw [HA.o] at HLn
    dsimp only at HLn
    have hlen := tcr_len ((L.drop k).take i)
    rw [List.length_take] at hlen
    generalize tcr ((L.drop k).take i) = y at *
    obtain ⟨nx, hnx⟩ := ny (k + i + 1)
    rw [hnx] at HF HLn
    have hnk : k < nx := by omega
    have hns : nx ≤ s.size := by omega
    have hnx0 : ¬ (nx : Int) < 0 := by omega
    obtain ⟨Y, hY⟩ := ny (⟨y.toArray⟩ : ByteArray)
    have HYl := Ho (show Y.data.toList = y by rw [← hY])
    have HYz := Ho (show Y.size = y.length by rw [Go.Lib.size_eq, HYl.o])
    have hvY : vs y = .string Y := by rw [← hY]
    have HYm := Ho hY
    rw [hvY] at HLn
    clear hY hvY hlen hf HA HYl
    go_wp2_with fail
    refine HLn.o.mono ?_
    rintro e w3 ⟨rfl, h9⟩
    have HU3 := Ho (HU.o.trans h9)
    have HO3 := Ho (ow_up HO.o h9)
    clear h9 HLn HU HO
    dsimp only
    by_cases hy0 : y = []
    · have hem := emp_yes (s := Y) (by rw [HYz.o, hy0]; rfl)
      have HR3 := Ho (show rv = if 16384 < nx - b0 then .error 1 else .ok (ln, d, nx) by
       rw [HR2.o, HF.o, if_pos hy0]
       dsimp only [Option.map_some]
       rw [show k - b0 + (i + 1) = nx - b0 by omega, List.append_nil, show b0 + (nx - b0) = nx by omega])
      clear HF hy0
      by_cases h16 : 16384 < nx - b0
      · have hz : (16384 : Int) < (nx : Int) - (b0 : Int) := by omega
        rw [if_pos h16] at HR3
        go_wp2
        refine bodyPost_ret (results_tmp4 rfl _ _ _) rfl ?_
        rw [HR3.o]
        exact ⟨⟨a7, q, c7, rfl⟩, HU3.o⟩
      have hz : ¬ (16384 : Int) < (nx : Int) - (b0 : Int) := by omega
      rw [if_neg h16] at HR3
      go_wp2
      refine bodyPost_ret (results_tmp4 rfl _ _ _) rfl ?_
      rw [HR3.o]
      refine ⟨⟨a7, c7, ?_, HO3⟩, HU3.o⟩
      rw [HvX.o, ← bts_len, HD.o]
      rfl
    have hem := emp_no (s := Y) (by rw [HYz.o]; exact List.length_pos_iff.2 hy0)
    rw [if_neg hy0] at HF
    clear hy0
    go_wp2_with (with_reducible refine sA ?_)
    show wpList _ _ _ _ _ _
    refine wpList_appSt (w := w3) (N := w.heap.size) rfl _ _ rfl a7 c7 _ Y HD.o rfl rfl HO3.o HU3.o.size (by omega) ?_
    intro ax2 cx2 w7 o7 u7
    have HO7 := Ho (show StO w7 w.heap.size ax2 (bts (d ++ [y])) cx2 by rw [bts_snoc, HYm.o]; exact o7)
    have HU7 := Ho (u7 w HU3.o (Nat.le_refl _))
    have HL7 := Ho (show (d ++ [y]).length = q + 1 by rw [List.length_append, ← bts_len, HD.o]; rfl)
    have HF7 := Ho (show rfA L b0 = (rfA L nx).map fun p => ((d ++ [y]) ++ p.1, (nx - b0) + p.2.1, (nx - b0) + p.2.2) by
     rw [HF.o, Option.map_map]
     congr 1
     funext p
     simp only [Function.comp, List.append_assoc, List.singleton_append, Prod.mk.injEq, true_and]
     omega)
    clear o7 u7 HF
    simp only [Act.put, pB, pC, pD]
    go_wp2
    go_roundw
    all_goals first
     | exact ⟨nx, q + 1, ax2, cx2, rfl, rfl, by omega, hns, by omega, Ho ⟨d ++ [y], HL7.o, HO7.o, HU7.o, HF7.o⟩⟩
     | (simp [intOf]; omega)
theorem rsg_er {st fl : List UInt8} {k : Nat} (h : rsg st fl = .error k) : k < 12 := by
 unfold rsg at h
 split at h
 · rename_i he
   injection h with h
   subst h
   exact rsl_er he
 split at h
 · rename_i he
   injection h with h
   subst h
   exact rdf_er he
 split at h
 · rename_i he
   injection h with h
   subst h
   exact rsF_er he
 cases h
theorem rsP_lt {l : List UInt8} {k : Nat} (h : rsP l = .error k) : k < 24 := msg_lt (by decide) (fun _ _ _ => rsg_er) h
def PsR (w w' : World) (e : Ending) : Er ((Rs × Bool × List UInt8) × Nat) → Prop
 | .error k => e = .returned (.tuple #[.agg z5.toArray, .int .i64 0, .int .i64 (numK k)])
 | .ok ((x, cl, b), n) => ∃ a c v, e = .returned (.tuple #[rsV x cl a c v, .int .i64 (n : Int), .int .i64 0]) ∧ Hd (FdO w' w.heap.size a x.fs c ∧ Ow w' w.heap.size v b)
set_option maxRecDepth 100000 in
set_option maxHeartbeats 4000000 in
theorem ParseResponse_walk (ad : Nat → Addr) {a : Option Addr} {n c : Nat} {ds : List UInt8} (hn40 : n ≤ 1099511627776) (w : World) (hS : Sb w (.slice a n c) ds) (hW : GW w ad) : Calls Tryz.prog 32 #[.slice a n c] w fun e w' => PsR w w' e (rsP ds) ∧ Up w w' := by
 have HW := Ho hW
 have HA0 := Ho (at_new w 77 z5)
 have HU0 := Ho ((Up.refl w).alloc (.cells z5.toArray 77))
 have HRq := Ho (readResponse_walk ad hn40 (w.alloc (.cells z5.toArray 77)) (hS.up HU0.o) (hW.up HU0.o))
 clear hW hS
 go_enter Tryz.func32, Tryz.ntmps32
 go_wp2_with fail
 change Calls _ _ _ (w.alloc (.cells z5.toArray 77)) _
 generalize w.alloc (.cells z5.toArray 77) = w1 at *
 refine HRq.o.mono ?_
 rintro e w2 ⟨hR, h9⟩
 have HU2 := Ho (HU0.o.trans h9)
 have HA2 := Ho (HA0.o.up h9)
 clear h9 HRq
 cases hr : rsP ds with
 | error k =>
  rw [hr] at hR
  obtain rfl : e = _ := hR
  have hk := rsP_lt hr
  have hne := er_neq ad k
  have hge := er_grd ad k
  have HE := Ho hr
  unfold z5
  dsimp only
  clear hr
  go_wp2_with fail
  have HU3 := Ho (HU2.o.alloc (.cells #[.int .i64 0, .int .i64 0, .slice none 0 0, .slice none 0 0, .bool false] 77))
  refine (numberOf_any ad k hk _ (HW.o.up HU3.o).ge).mono ?_
  rintro e w4 ⟨rfl, h9⟩
  have HU4 := Ho (HU3.o.trans h9)
  have HA4 := Ho ((HA2.o.up ((Up.refl w2).alloc _)).up h9)
  clear h9
  dsimp only
  go_wp2_with (with_reducible show wpList _ _ _ (⟨_, .store 77 (.tmp 2) _, _, _, _, _⟩ :: _) _ _; refine Shut.out ?_)
  show wpList _ _ _ _ _ _
  refine wpList_store_at rfl 77 _ _ rfl (w.heap.size) HA4.o z5 rfl rfl rfl (by kernel_rfl) (by kernel_rfl) ?_
  intro w8 hA8 hg8
  have HA8 := Ho hA8
  have HU8 := Ho (HU4.o.bz hg8)
  clear hA8 hg8
  simp only [Act.put]
  repeat go_step
  refine bodyPost_ret (result_cell_tmp2 Tryz.results32 _ _ (w.heap.size) z5 _ _ rfl rfl rfl HA8.o.range Tryz.underlying77 rfl (by kernel_rfl)) rfl ?_
  rw [HE.o]
  exact ⟨rfl, HU8.o⟩
 | ok q =>
  obtain ⟨⟨x, cl, b⟩, m⟩ := q
  rw [hr] at hR
  obtain ⟨af, cf, v, rfl, hO⟩ := hR
  have HF2 := Ho (ow_base hO.o.1 HU0.o.size)
  have HB2 := Ho (ow_base hO.o.2 HU0.o.size)
  have HE := Ho hr
  clear hO hr
  obtain ⟨aB, nB, cB, rfl⟩ := Sb.shape (Ow.sb HB2.o)
  obtain ⟨rl, hrl⟩ : ∃ rl, rl = rsV x cl af cf (.slice aB nB cB) := ⟨_, rfl⟩
  have HRl := Ho hrl
  rw [← hrl]
  obtain ⟨nf, hnf⟩ : ∃ nf, nf = x.fs.length := ⟨_, rfl⟩
  have HRv := Ho (show rsV x cl af cf (.slice aB nB cB) = .agg #[.int .i64 (x.st : Int), .int .i64 x.mi, .slice af nf cf, .slice aB nB cB, .bool cl] by unfold rsV; rw [hnf])
  rw [hrl, HRv.o]
  clear hrl hnf HRl
  have HA3 := Ho (at_new w2 77 [.int .i64 (x.st : Int), .int .i64 x.mi, .slice af nf cf, .slice aB nB cB, .bool cl])
  have HU3 := Ho ((Up.refl w2).alloc (.cells [.int .i64 (x.st : Int), .int .i64 x.mi, .slice af nf cf, .slice aB nB cB, .bool cl].toArray 77))
  go_wp2_with (with_reducible refine sL 77 ?_)
  show wpList _ _ _ _ _ _
  refine wpList_load_mid rfl _ _ rfl w2.heap.size 0 rfl _ _ HA3.o.range Tryz.underlying77 rfl (by kernel_rfl) ?_
  simp only [Act.put, pB, pC, pD]
  go_wp2_with (with_reducible show wpList _ _ _ (⟨_, .store 77 (.tmp 2) _, _, _, _, _⟩ :: _) _ _; refine Shut.out ?_)
  show wpList _ _ _ _ _ _
  refine wpList_store_at rfl 77 _ _ rfl (w.heap.size) (HA2.o.up HU3.o) [.int .i64 (x.st : Int), .int .i64 x.mi, .slice af nf cf, .slice aB nB cB, .bool cl] rfl rfl rfl (by kernel_rfl) (by kernel_rfl) ?_
  intro w8 hA8 hg8
  have HA8 := Ho hA8
  have HU8 := Ho ((HU2.o.trans HU3.o).bz hg8)
  have HF8 := Ho ((ow_up HF2.o HU3.o).kept hg8 (.inr (own_ne HF2.o HA2.o (by decide))))
  have HO8 := Ho ((ow_up HB2.o HU3.o).kept hg8 (.inr (own_ne HB2.o HA2.o (by decide))))
  clear hA8 hg8
  simp only [Act.put]
  repeat go_step
  refine bodyPost_ret (result_cell_tmp2 Tryz.results32 _ _ (w.heap.size) [.int .i64 (x.st : Int), .int .i64 x.mi, .slice af nf cf, .slice aB nB cB, .bool cl] _ _ rfl rfl rfl HA8.o.range Tryz.underlying77 rfl (by kernel_rfl)) rfl ?_
  rw [HE.o]
  exact ⟨⟨af, cf, .slice aB nB cB, congrArg (fun y => Ending.returned (.tuple #[y, .int .i64 (m : Int), .int .i64 0])) HRv.o.symm, Ho ⟨HF8.o, HO8.o⟩⟩, HU8.o⟩
structure QD where
 m : ByteArray
 t : ByteArray
 mi : Int
 fs : List FD
 cl : Bool
 b : List UInt8
 n : Int
 e : Int
def datQ : Er ((Rq × List UInt8) × Nat) → QD
 | .error k => ⟨⟨#[]⟩, ⟨#[]⟩, 0, [], false, [], 0, numK k⟩
 | .ok ((x, b), n) => ⟨⟨x.m.toArray⟩, ⟨x.t.toArray⟩, x.mi, x.fs, cls (x.mi == 0) x.fs, b, (n : Int), 0⟩
structure SD where
 st : Int
 mi : Int
 fs : List FD
 cl : Bool
 b : List UInt8
 n : Int
 e : Int
def datS : Er ((Rs × Bool × List UInt8) × Nat) → SD
 | .error k => ⟨0, 0, [], false, [], 0, numK k⟩
 | .ok ((x, cl, b), n) => ⟨(x.st : Int), x.mi, x.fs, cl, b, (n : Int), 0⟩
def qV (d : QD) (a : Option Addr) (c : Nat) (v : Value) : Value := .agg #[.string d.m, .string d.t, .int .i64 d.mi, .slice a d.fs.length c, v, .bool d.cl]
def sV (d : SD) (a : Option Addr) (c : Nat) (v : Value) : Value := .agg #[.int .i64 d.st, .int .i64 d.mi, .slice a d.fs.length c, v, .bool d.cl]
def Sml (fs : List FD) : Prop := fs.length ≤ 1048576 ∧ ∀ f ∈ fs, f.n.size ≤ 1048576 ∧ f.v.size ≤ 1048576
theorem sml_nil : Sml [] := ⟨by simp, fun f hf => by cases hf⟩
theorem rdf_sml {l : List UInt8} {fs : List FD} (hl : l.length ≤ 16384) (h : rdf l = .ok fs) : Sml fs := by
 have h1 := rdf_small h
 exact ⟨by omega, fun f hf => by have := h1.2 f hf; omega⟩
theorem rqg_ok {st fl : List UInt8} {x : Rq} {way : Int} {len : Nat} (h : rqg st fl = .ok (x, way, len)) : rql st = .ok (x.m, x.t, x.mi) ∧ rdf fl = .ok x.fs ∧ ckh x.fs x.mi = none ∧ frm x.fs x.mi 0 = .ok (way, len) := by
 unfold rqg at h
 split at h
 · cases h
 rename_i m t mi h1
 split at h
 · cases h
 rename_i fs h2
 split at h
 · cases h
 rename_i h3
 split at h
 · cases h
 rename_i w l h4
 injection h with h
 injection h with e1 e2
 injection e2 with e2 e3
 subst e1 e2 e3
 exact ⟨h1, h2, h3, h4⟩
theorem rsg_ok {st fl : List UInt8} {x : Rs} {way : Int} {len : Nat} (h : rsg st fl = .ok (x, way, len)) : rsl st = .ok (x.st, x.mi) ∧ rdf fl = .ok x.fs ∧ rsF (x.st : Int) x.fs x.mi = .ok (way, len) := by
 unfold rsg at h
 split at h
 · cases h
 rename_i s mi h1
 split at h
 · cases h
 rename_i fs h2
 split at h
 · cases h
 rename_i w l h4
 injection h with h
 injection h with e1 e2
 injection e2 with e2 e3
 subst e1 e2 e3
 exact ⟨h1, h2, h4⟩
theorem datQ_sml {l : List UInt8} : Sml (datQ (rqP l)).fs := by
 cases h : rqP l with
 | error k => exact sml_nil
 | ok q =>
  obtain ⟨⟨x, b⟩, n⟩ := q
  obtain ⟨st, fl, k, x', way, len, b', h1, h2, h3, h4, _⟩ := msg_ok h
  injection h4 with e1 e2
  subst e1
  exact rdf_sml (cHd_ok h1).2.2.2.1 (rqg_ok h2).2.1
theorem datS_sml {l : List UInt8} : Sml (datS (rsP l)).fs := by
 cases h : rsP l with
 | error k => exact sml_nil
 | ok q =>
  obtain ⟨⟨x, cl, b⟩, n⟩ := q
  obtain ⟨st, fl, k, x', way, len, b', h1, h2, h3, h4, _⟩ := msg_ok h
  injection h4 with e1 e2
  subst e1
  exact rdf_sml (cHd_ok h1).2.2.2.1 (rsg_ok h2).2.1
theorem fdl_nil (w : World) : FdL w none [] 0 := ⟨Nat.le_refl _, fun i h => by cases h⟩
theorem sb_nil' (w : World) : Sb w (.slice none 0 0) [] := ⟨none, 0, rfl, by simp, by simp, fun _ => ⟨rfl, rfl⟩, fun _ e => by cases e⟩
theorem fdo_nil (w : World) (N : Nat) : FdO w N none [] 0 := World.ownsRow_nil _ _ _ _
theorem ow_nil (w : World) (N : Nat) : Ow w N (.slice none 0 0) [] := World.ownsRow_nil _ _ _ _
theorem ParseRequest_dat (ad : Nat → Addr) {a : Option Addr} {n c : Nat} {ds : List UInt8} (hn40 : n ≤ 1099511627776) (w : World) (hS : Sb w (.slice a n c) ds) (hW : GW w ad) : Calls Tryz.prog 29 #[.slice a n c] w fun e w' => ∃ a c v, e = .returned (.tuple #[qV (datQ (rqP ds)) a c v, .int .i64 (datQ (rqP ds)).n, .int .i64 (datQ (rqP ds)).e]) ∧ Hd (FdO w' w.heap.size a (datQ (rqP ds)).fs c ∧ Ow w' w.heap.size v (datQ (rqP ds)).b) ∧ Up w w' := by
 refine (ParseRequest_walk ad hn40 w hS hW).mono ?_
 rintro e w' ⟨hR, hU⟩
 cases h : rqP ds with
 | error k =>
  rw [h] at hR
  obtain rfl : e = _ := hR
  exact ⟨none, 0, .slice none 0 0, rfl, Ho ⟨fdo_nil _ _, ow_nil _ _⟩, hU⟩
 | ok q =>
  obtain ⟨⟨x, b⟩, m⟩ := q
  rw [h] at hR
  obtain ⟨a, c, v, rfl, hO⟩ := hR
  exact ⟨a, c, v, rfl, hO, hU⟩
theorem ParseResponse_dat (ad : Nat → Addr) {a : Option Addr} {n c : Nat} {ds : List UInt8} (hn40 : n ≤ 1099511627776) (w : World) (hS : Sb w (.slice a n c) ds) (hW : GW w ad) : Calls Tryz.prog 32 #[.slice a n c] w fun e w' => ∃ a c v, e = .returned (.tuple #[sV (datS (rsP ds)) a c v, .int .i64 (datS (rsP ds)).n, .int .i64 (datS (rsP ds)).e]) ∧ Hd (FdO w' w.heap.size a (datS (rsP ds)).fs c ∧ Ow w' w.heap.size v (datS (rsP ds)).b) ∧ Up w w' := by
 refine (ParseResponse_walk ad hn40 w hS hW).mono ?_
 rintro e w' ⟨hR, hU⟩
 cases h : rsP ds with
 | error k =>
  rw [h] at hR
  obtain rfl : e = _ := hR
  exact ⟨none, 0, .slice none 0 0, rfl, Ho ⟨fdo_nil _ _, ow_nil _ _⟩, hU⟩
 | ok q =>
  obtain ⟨⟨x, cl, b⟩, m⟩ := q
  rw [h] at hR
  obtain ⟨a, c, v, rfl, hO⟩ := hR
  exact ⟨a, c, v, rfl, hO, hU⟩
def lsz (ls : List (List UInt8)) : Nat := (ls.map fun x => x.length + 1).sum
theorem lsz_mem : ∀ {ls : List (List UInt8)} {x : List UInt8}, x ∈ ls → x.length + 1 ≤ lsz ls
 | y :: r, x, h => by
  unfold lsz
  rw [List.map_cons, List.sum_cons]
  rcases List.mem_cons.1 h with rfl | h
  · omega
  have := lsz_mem h
  unfold lsz at this
  omega
theorem lsz_len : ∀ (ls : List (List UInt8)), ls.length ≤ lsz ls
 | [] => Nat.zero_le _
 | y :: r => by
  have := lsz_len r
  unfold lsz at *
  rw [List.map_cons, List.sum_cons, List.length_cons]
  omega
theorem rfl'_small : ∀ (f : Nat) (l : List UInt8) (ls : List (List UInt8)) (p a : Nat), rfl' f l = some (ls, p, a) → lsz ls ≤ p ∧ p < a ∧ a ≤ l.length
 | 0, _, _, _, _, h => by cases h
 | f + 1, l, ls, p, a, h => by
  unfold rfl' at h
  cases hf : fnl l with
  | none => rw [hf] at h; cases h
  | some i =>
   have hil := fnl_lt hf
   rw [hf] at h
   dsimp only at h
   split at h
   · injection h with h; injection h with h0 h; injection h with h1 h2
     subst h0 h1 h2
     exact ⟨Nat.le_refl _, by omega, by omega⟩
   obtain ⟨⟨ls', p', a'⟩, h1, h2⟩ := Option.map_eq_some_iff.1 h
   injection h2 with h3 h2; injection h2 with h4 h5
   dsimp only at h3 h4 h5
   have ih := rfl'_small f _ _ _ _ h1
   rw [List.length_drop] at ih
   have ht := tcr_len (l.take i)
   rw [List.length_take] at ht
   subst h3 h4 h5
   unfold lsz at *
   rw [List.map_cons, List.sum_cons]
   omega
theorem rHd_small {pl : Nat} {l st : List UInt8} {ls : List (List UInt8)} {k : Nat} (h : rHd pl l = .ok (st, ls, k)) : st.length ≤ 8000 ∧ lsz ls ≤ 16384 ∧ k ≤ l.length := by
 unfold rHd at h
 cases hf : fnl l with
 | none => rw [hf] at h; dsimp only at h; split at h <;> cases h
 | some i =>
  have hil := fnl_lt hf
  rw [hf] at h
  dsimp only at h
  split at h
  · cases h
  rename_i h8
  cases hr : rF (l.drop (i + 1)) with
  | none => rw [hr] at h; dsimp only at h; split at h <;> cases h
  | some q =>
   obtain ⟨ls', p, a⟩ := q
   rw [hr] at h
   dsimp only at h
   split at h
   · cases h
   injection h with h
   injection h with e1 e2
   injection e2 with e2 e3
   subst e1 e2 e3
   have h1 := rfl'_small _ _ _ _ _ hr
   rw [List.length_drop] at h1
   exact ⟨by omega, by omega, by omega⟩
theorem rHd_er {pl k : Nat} {l : List UInt8} (hpl : pl < 12) (h : rHd pl l = .error k) : k < 24 := by
 unfold rHd at h
 split at h
 · split at h <;> (injection h with h; omega)
 split at h
 · injection h with h; omega
 split at h
 · split at h <;> (injection h with h; omega)
 split at h
 · injection h with h; omega
 cases h
theorem fll_small (s : List UInt8) : (fll s).n.size + (fll s).v.size ≤ s.length := by
 have e1 : (fll s).n.size = (c1 58 s).length := by unfold fll; simp [ByteArray.size]
 have e2 : (fll s).v.size = (trm (c2 58 s)).length := by unfold fll; simp [ByteArray.size]
 rw [e1, e2]
 have h1 := trm_len (c2 58 s)
 rcases cut_cases 58 s with ⟨_, hc⟩ | ⟨a, b, _, rfl, hc⟩
 · have k1 : c1 58 s = s := by unfold c1; rw [hc]
   have k2 : c2 58 s = [] := by unfold c2; rw [hc]
   rw [k2] at h1 ⊢
   rw [k1]
   simp only [List.length_nil] at h1
   omega
 have k1 : c1 58 (a ++ 58 :: b) = a := by unfold c1; rw [hc]
 have k2 : c2 58 (a ++ 58 :: b) = b := by unfold c2; rw [hc]
 rw [k2] at h1 ⊢
 rw [k1, List.length_append, List.length_cons]
 omega
theorem szs_fll : ∀ (ls : List (List UInt8)), szs (ls.map fll) ≤ 2 + 4 * lsz ls
 | [] => by decide
 | y :: r => by
  have ih := szs_fll r
  have h1 := fll_small y
  unfold lsz at *
  unfold szs at *
  rw [List.map_cons, List.map_cons, List.sum_cons, List.map_cons, List.sum_cons]
  have h2 : szf (fll y) = (fll y).n.size + (fll y).v.size + 4 := rfl
  omega
theorem rfd_small {ls : List (List UInt8)} {fs : List FD} (hl : lsz ls ≤ 16384) (h : rfd ls = .ok fs) : szs fs ≤ 65538 := by
 unfold rfd at h
 split at h
 · cases h
 split at h
 · injection h with h
   subst h
   have := szs_fll ls
   omega
 cases h
theorem rfd_er {ls : List (List UInt8)} {k : Nat} (h : rfd ls = .error k) : k = 1 ∨ k = 5 := by
 unfold rfd at h
 split at h
 · injection h with h; exact .inl h.symm
 split at h
 · cases h
 injection h with h; exact .inr h.symm
theorem dgl_ok {l : List UInt8} {n : Int} (h : dgl l = .ok n) : 0 ≤ n ∧ n ≤ 1048576 := by
 unfold dgl at h
 split at h
 · split at h
   · injection h with h; subst h; omega
   cases h
 cases h
theorem dgl_er {l : List UInt8} {k : Nat} (h : dgl l = .error k) : k = 5 ∨ k = 7 := by
 unfold dgl at h
 split at h
 · split at h
   · cases h
   injection h with h; exact .inr h.symm
 injection h with h; exact .inl h.symm
theorem rln_ok {fs : List FD} {mi n : Int} (h : rln fs mi = .ok n) : n = -2 ∨ n = -1 ∨ (0 ≤ n ∧ n ≤ 1048576) := by
 unfold rln at h
 split at h
 · split at h
   · cases h
   injection h with h; exact .inl h.symm
 · injection h with h; exact .inr (.inl h.symm)
 · exact .inr (.inr (dgl_ok h))
 cases h
theorem rln_er {fs : List FD} {mi : Int} {k : Nat} (h : rln fs mi = .error k) : k = 5 ∨ k = 7 := by
 unfold rln at h
 split at h
 · split at h
   · injection h with h; exact .inl h.symm
   cases h
 · cases h
 · exact dgl_er h
 injection h with h; exact .inl h.symm
theorem bdy_er {n : Int} {l : List UInt8} {k : Nat} (h : bdy n l = .error k) : k < 24 := by
 unfold bdy at h
 split at h
 · cases hu : unk l with
   | error q =>
    rw [hu] at h
    injection h with h
    rcases unk_er hu with rfl | rfl | rfl | rfl
    · rw [if_pos rfl] at h; omega
    · rw [if_neg (by decide)] at h; omega
    · rw [if_neg (by decide)] at h; omega
    rw [if_neg (by decide)] at h; omega
   | ok p => rw [hu] at h; cases h
 split at h
 · injection h with h; omega
 cases h
theorem numK_ne {k : Nat} (h : k < 24) : (numK k != 0) = true := by
 have : ∀ k, k < 24 → (numK k != 0) = true := by decide
 exact this k h
def rqR (l : List UInt8) : Er ((Rq × List UInt8) × Nat) := match rHd 9 l with
 | .error k => .error k
 | .ok (st, ls, k) => match rql st with
   | .error e => .error e
   | .ok (m, t, mi) => match rfd ls with
     | .error e => .error e
     | .ok fs => match ckh fs mi with
       | some e => .error e
       | none => match rln fs mi with
         | .error e => .error e
         | .ok n => match bdy (if n = -1 then 0 else n) (l.drop k) with
           | .error e => .error e
           | .ok (b, j) => .ok ((⟨m, t, mi, fs⟩, b), k + j)
theorem fcu_bdy {fs : List FD} {mi n : Int} (h : rln fs mi = .ok n) (hs : ∀ f ∈ fs, f.v.size ≤ 1048576) (l : List UInt8) : ∃ way len, frm fs mi 0 = .ok (way, len) ∧ fcu way len l = bdy (if n = -1 then 0 else n) l := by
 have h1 := frm_rln fs mi 0 hs
 rw [h] at h1
 dsimp only at h1
 rcases rln_ok h with rfl | rfl | ⟨h0, hm⟩
 · rw [if_pos rfl] at h1
   refine ⟨3, 0, h1, ?_⟩
   rw [show (if (-2 : Int) = -1 then (0 : Int) else -2) = -2 by decide]
   unfold fcu bdy
   rw [if_pos rfl, if_pos rfl]
   cases unk l <;> rfl
 · rw [if_neg (by decide), if_pos rfl] at h1
   refine ⟨0, 0, h1, ?_⟩
   rw [show (if (-1 : Int) = -1 then (0 : Int) else -1) = 0 by decide]
   unfold fcu bdy
   rw [if_neg (by decide), if_neg (by decide), if_neg (by decide), if_neg (by decide), if_neg (by simp)]
   rfl
 rw [if_neg (by omega), if_neg (by omega)] at h1
 refine ⟨2, n.toNat, h1, ?_⟩
 rw [if_neg (show ¬ n = -1 by omega)]
 unfold fcu bdy
 rw [if_neg (by decide), if_neg (by decide), if_pos rfl, if_neg (show ¬ n = -2 by omega)]
theorem rqP_rqR (l : List UInt8) : rqP l = rqR l := by
 have h := cHd_ref (α := Er ((Rq × List UInt8) × Nat)) 9 l (fun k => .error k) (fun st R k => match rql st with
  | .error e => .error e
  | .ok (m, t, mi) => match R with
    | .error e => .error e
    | .ok fs => match ckh fs mi with
      | some e => .error e
      | none => match frm fs mi 0 with
        | .error e => .error e
        | .ok (way, len) => match fcu way len (l.drop k) with
          | .error e => .error e
          | .ok (b, j) => .ok ((⟨m, t, mi, fs⟩, b), k + j))
 have e1 : rqP l = match cHd 9 l with
  | .error k => .error k
  | .ok (st, fl, k) => match rql st with
    | .error e => .error e
    | .ok (m, t, mi) => match rdf fl with
      | .error e => .error e
      | .ok fs => match ckh fs mi with
        | some e => .error e
        | none => match frm fs mi 0 with
          | .error e => .error e
          | .ok (way, len) => match fcu way len (l.drop k) with
            | .error e => .error e
            | .ok (b, j) => .ok ((⟨m, t, mi, fs⟩, b), k + j) := by
  unfold rqP msg rqg
  cases cHd 9 l with
  | error k => rfl
  | ok q =>
   obtain ⟨st, fl, k⟩ := q
   dsimp only
   cases rql st with
   | error e => rfl
   | ok q =>
    obtain ⟨m, t, mi⟩ := q
    dsimp only
    cases rdf fl with
    | error e => rfl
    | ok fs =>
     dsimp only
     cases ckh fs mi with
     | some e => rfl
     | none =>
      dsimp only
      cases frm fs mi 0 with
      | error e => rfl
      | ok q => rfl
 refine e1.trans (Eq.trans (by exact h) ?_)
 unfold rqR
 cases hr : rHd 9 l with
 | error k => rfl
 | ok q =>
  obtain ⟨st, ls, k⟩ := q
  have hsm := rHd_small hr
  dsimp only
  cases rql st with
  | error e => rfl
  | ok q =>
   obtain ⟨m, t, mi⟩ := q
   dsimp only
   cases hfd : rfd ls with
   | error e => rfl
   | ok fs =>
    have hsz := rfd_small hsm.2.1 hfd
    have hs : ∀ f ∈ fs, f.v.size ≤ 1048576 := fun f hf => by have := szs_mem fs hf; omega
    dsimp only
    cases ckh fs mi with
    | some e => rfl
    | none =>
     dsimp only
     cases hl : rln fs mi with
     | error e =>
      have h1 := frm_rln fs mi 0 hs
      rw [hl] at h1
      rw [h1]
     | ok n =>
      obtain ⟨way, len, h1, h2⟩ := fcu_bdy hl hs (l.drop k)
      rw [h1]
      dsimp only
      rw [h2]
end Go.Proofs.YtehnnlhoajdcaaaGreatDoor
