import Derived.Test.YtehnnlhoajdcaaaGreatDoorMh
import Derived.Lib.CutLaws
import Derived.Lib.IndexLaws
import Derived.Lib.IndexBytes
namespace Go.Proofs.YtehnnlhoajdcaaaGreatDoor
open Go.RowKit Go.Shelf TextNum
set_option maxRecDepth 100000 in
theorem slCut_walk (s : ByteArray) (hs : s.size ≤ 4398046511104) (c : UInt8) (w : World) : Calls Tryz.prog 173 #[.string s, .string ⟨#[c]⟩] w fun e w' => e = .returned (.tuple #[.string ⟨(Go.Lib.cut s.data.toList [c]).1.toArray⟩, .string ⟨(Go.Lib.cut s.data.toList [c]).2.1.toArray⟩, .bool (Go.Lib.cut s.data.toList [c]).2.2]) ∧ ∃ n, w' = w.drewN n := by
 have hix : Go.Lib.indexB s ⟨#[c]⟩ = Go.Lib.indexByte s.data.toList c := Go.Lib.index_one _ _
 have L : Lays.n219 Tryz.prog Tryz.lays145_ren := { Tryz.lays145 with }
 rcases Go.Lib.indexB_cases s ⟨#[c]⟩ with hx | ⟨i, hx, hroom⟩
 · obtain ⟨e1, e2, e3⟩ := Go.Lib.cutB_miss s ⟨#[c]⟩ hx
   rw [hix] at hx
   rw [show [c] = (⟨#[c]⟩ : ByteArray).data.toList from rfl, e1, e2, e3]
   clear e1 e2 e3 hix
   go_enter Tryz.func173, Tryz.ntmps173
   go_wp2_with fail
   refine (Any.stringslite_Index_one L s c w).mono ?_
   rintro e w' ⟨rfl, rfl⟩
   rw [hx]
   dsimp only
   go_wp2
   go_ret3
   exact ⟨rfl, 0, rfl⟩
 obtain ⟨e1, e2, e3⟩ := Go.Lib.cutB_hit s ⟨#[c]⟩ i hx
 rw [hix] at hx
 rw [show [c] = (⟨#[c]⟩ : ByteArray).data.toList from rfl, e1, e2, e3]
 have hr : i + 1 ≤ s.size := hroom
 have c1 : (0 : Int) ≤ ↑i := by omega
 have c2 : (↑i : Int) ≤ ↑s.size := by omega
 have c3 : (0 : Int) ≤ ↑i + 1 := by omega
 have c4 : (↑i + 1 : Int) ≤ ↑s.size := by omega
 have c5 : IntKind.i64.wrap ((i : Int) + 1) = (i : Int) + 1 := by
  simp only [IntKind.wrap, IntKind.signed, IntKind.bits]
  simp
  omega
 have mixed := L.mixed
 clear e1 e2 e3 hix hroom
 go_enter Tryz.func173, Tryz.ntmps173
 go_wp2_with fail
 refine (Any.stringslite_Index_one L s c w).mono ?_
 rintro e w' ⟨rfl, rfl⟩
 rw [hx]
 dsimp only
 go_wp2
 go_region_o
 go_wp2
 go_ret3
 exact ⟨rfl, 1, rfl⟩
set_option maxRecDepth 100000 in
theorem Cut1_walk (s : ByteArray) (hs : s.size ≤ 4398046511104) (c : UInt8) (w : World) : Calls Tryz.prog 140 #[.string s, .string ⟨#[c]⟩] w fun e w' => e = .returned (.tuple #[.string ⟨(Go.Lib.cut s.data.toList [c]).1.toArray⟩, .string ⟨(Go.Lib.cut s.data.toList [c]).2.1.toArray⟩, .bool (Go.Lib.cut s.data.toList [c]).2.2]) ∧ ∃ n, w' = w.drewN n := by
 go_enter Tryz.func140, Tryz.ntmps140
 go_wp2_with fail
 refine (slCut_walk s hs c w).mono ?_
 rintro e w' ⟨rfl, n, rfl⟩
 dsimp only
 go_wp2
 go_ret3
 exact ⟨rfl, n, rfl⟩
theorem vs_data' (s : ByteArray) : vs s.data.toList = .string s := by cases s; rfl
def c1 (k : UInt8) (l : List UInt8) : List UInt8 := (Go.Lib.cut l [k]).1
def c2 (k : UInt8) (l : List UInt8) : List UInt8 := (Go.Lib.cut l [k]).2.1
theorem c_len (k : UInt8) (l : List UInt8) : (c1 k l).length ≤ l.length ∧ (c2 k l).length ≤ l.length := by
 unfold c1 c2 Go.Lib.cut
 split <;> simp <;> omega
theorem Cut_up (s : ByteArray) (hs : s.size ≤ 4398046511104) (c : UInt8) (w : World) : Calls Tryz.prog 140 #[.string s, .string ⟨#[c]⟩] w fun e w' => e = .returned (.tuple #[vs (c1 c s.data.toList), vs (c2 c s.data.toList), .bool (Go.Lib.cut s.data.toList [c]).2.2]) ∧ Up w w' := by
 refine (Cut1_walk s hs c w).mono ?_
 rintro e w' ⟨rfl, n, rfl⟩
 exact ⟨rfl, (Up.refl w).drewN n⟩
def z6 : List Value := [.string ⟨#[]⟩, .string ⟨#[]⟩, .int .i64 0, .slice none 0 0, .slice none 0 0, .bool false]
def rql (l : List UInt8) : Er (List UInt8 × List UInt8 × Int) :=
 if (tok (c1 32 l) && (tgt (c1 32 (c2 32 l)) && vok (c2 32 (c2 32 l)))) = false then .error 3
 else if mtk ⟨(c1 32 l).toArray⟩ = false then .error 10
 else match mno ⟨(c2 32 (c2 32 l)).toArray⟩ with
  | .error k => .error k
  | .ok n => .ok (c1 32 l, c1 32 (c2 32 l), n)
def rlR (ad : Nat → Addr) : Er (List UInt8 × List UInt8 × Int) → Value
 | .error k => .tuple #[.agg z6.toArray, ev (ad k)]
 | .ok (m, t, n) => .tuple #[.agg #[vs m, vs t, .int .i64 n, .slice none 0 0, .slice none 0 0, .bool false], .nilIface]
theorem mno_er {s : ByteArray} {k : Nat} (h : mno s = .error k) : k = 4 := by
 unfold mno at h
 split at h
 · cases h
 split at h
 · cases h
 injection h with h; exact h.symm
set_option maxRecDepth 100000 in
set_option maxHeartbeats 1000000 in
theorem readRequestLine_walk (ad : Nat → Addr) (s : ByteArray) (hs : s.size ≤ 1048576) (w : World) (h : GE w ad) (hN : GN w) (hM : w.rangeAt 14 0 mtC) : Calls Tryz.prog 116 #[.string s] w fun e w' => e = .returned (rlR ad (rql s.data.toList)) ∧ Up w w' := by
 have HG := Ho h
 have HNN := Ho hN
 have HMM := Ho hM
 clear h hN hM
 have HA0 := Ho (at_new w 48 z6)
 have HU0 := Ho ((Up.refl w).alloc (.cells z6.toArray 48))
 obtain ⟨L, hL⟩ := ny s.data.toList
 have hC1 := fun w => Cut_up s (by omega) 32 w
 have hl1 := c_len 32 L
 have hl2 := c_len 32 (c2 32 L)
 have hLs : L.length = s.size := by rw [← hL, ← Go.Lib.size_eq]
 rw [hL] at hC1 ⊢
 clear hL
 obtain ⟨rv, hrv⟩ := ny (rlR ad (rql L))
 have HR := Ho hrv
 rw [hrv]
 clear hrv
 unfold rql at HR
 obtain ⟨m, hm⟩ := ny (⟨(c1 32 L).toArray⟩ : ByteArray)
 obtain ⟨r, hr⟩ := ny (⟨(c2 32 L).toArray⟩ : ByteArray)
 have hmd : c1 32 L = m.data.toList := by rw [← hm]
 have hrd : c2 32 L = r.data.toList := by rw [← hr]
 have hms : m.size ≤ 1048576 := by rw [Go.Lib.size_eq, ← hmd]; omega
 have hrs : r.size ≤ 1048576 := by rw [Go.Lib.size_eq, ← hrd]; omega
 have hC2 := fun w => Cut_up r (by omega) 32 w
 rw [hmd, vs_data', hrd, vs_data'] at hC1
 rw [hm, hmd, hrd] at HR
 rw [hrd] at hl2
 obtain ⟨t, ht⟩ := ny (⟨(c1 32 r.data.toList).toArray⟩ : ByteArray)
 obtain ⟨v, hv⟩ := ny (⟨(c2 32 r.data.toList).toArray⟩ : ByteArray)
 have htd : c1 32 r.data.toList = t.data.toList := by rw [← ht]
 have hvd : c2 32 r.data.toList = v.data.toList := by rw [← hv]
 have hts : t.size ≤ 1048576 := by rw [Go.Lib.size_eq, ← htd]; rw [Go.Lib.size_eq] at hrs; omega
 have hvs : v.size ≤ 1048576 := by rw [Go.Lib.size_eq, ← hvd]; rw [Go.Lib.size_eq] at hrs; omega
 rw [htd, vs_data', hvd, vs_data'] at hC2
 rw [hv, htd, hvd] at HR
 generalize (Go.Lib.cut L [32]).2.2 = bb1 at *
 generalize (Go.Lib.cut r.data.toList [32]).2.2 = bb2 at *
 have HC1 := Ho hC1
 have HC2 := Ho hC2
 clear hC1 hC2 hm hr ht hv hmd hrd htd hvd hl1 hl2 hLs
 go_enter Tryz.func116, Tryz.ntmps116
 go_wp2_with fail
 change Calls _ _ _ (w.alloc (.cells z6.toArray 48)) _
 generalize w.alloc (.cells z6.toArray 48) = w1 at *
 refine (HC1.o w1).mono ?_
 rintro e w2 ⟨rfl, h9⟩
 have HU2 := Ho (HU0.o.trans h9)
 have HA2 := Ho (HA0.o.up h9)
 clear h9
 dsimp only
 go_wp2_with fail
 refine (HC2.o w2).mono ?_
 rintro e w3 ⟨rfl, h9⟩
 have HU3 := Ho (HU2.o.trans h9)
 have HA3 := Ho (HA2.o.up h9)
 clear h9
 dsimp only
 have HTk := Ho (isToken_walk m (by omega) w3)
 cases hk : tok m.data.toList with
 | false =>
  rw [hk] at HTk HR
  have HE := Ho (show rv = rlR ad (.error 3) by rw [← HR.o]; rfl)
  go_wp2_with fail
  refine (HTk.o).mono ?_
  rintro e w4 ⟨rfl, h9⟩
  have HU4 := Ho (HU3.o.trans h9)
  have HA4 := Ho (HA3.o.up h9)
  clear h9
  dsimp only
  go_wp2
  refine wp_region_held_drew (S := fun w2 => (∃ cs, cs.length = 6 ∧ At w2 w.heap.size 48 cs) ∧ GE w2 ad ∧ Up w w2) (by kernel_rfl) ⟨⟨z6, rfl, HA4.o.up (Up.refl _).drew⟩, HG.o.up HU4.o.drew, HU4.o.drew⟩ (fun hS => ?_)
  refine tK 0 (some 37) (.build 48 #[]) 48 (.agg z6.toArray) hS ?_ ?_
  · intro _ _ w5 hSw
    clear hSw hS
    go_simp
    rfl
  simp only [Act.put, pB, pC, pD]
  refine tK 1 (some 38) (.load 106 (.global 3)) 106 (ev (ad 3)) hS ?_ ?_
  · intro _ _ w5 hSw
    have hgl : w5.cell? ⟨3, 0, none⟩ = _ := hSw.2.1.gl 3 (by decide)
    clear hSw hS
    go_simp
  simp only [pA, pB, pC, pD]
  refine rD 2 none (.store 48 (.tmp 2) (.tmp 37)) 0 fun _ _ K hK => oper_of_list ?_
  obtain ⟨⟨cs, hcl, hcs2⟩, hS1, hS2⟩ := hS
  refine wpList_store_at rfl 48 _ _ rfl w.heap.size hcs2 z6 rfl rfl hcl.symm (by kernel_rfl) (by kernel_rfl) ?_
  intro w8 hA8 hg8
  have HA8 := Ho hA8
  have HU8 := Ho (hS2.bz hg8)
  clear hA8 hg8 hcs2 hS2 hS1
  refine hK.out _ _ ⟨⟨_, rfl, HA8.o⟩, HG.o.up HU8.o, HU8.o⟩ (fun hS => ?_)
  clear hK K
  refine tN 3 (some 3) (.assign (.tmp 38)) 106 (ev (ad 3)) hS ?_
  simp only [Act.put, pB, pC, pD]
  clear hS
  refine wpAnyH_done (by kernel_rfl) ?_ _
  repeat go_step
  refine bodyPost_ret (result_cell_tmp Tryz.results116 _ _ w.heap.size z6 _ rfl rfl HA8.o.range Tryz.underlying48 rfl (by kernel_rfl)) rfl ?_
  rw [HE.o]
  exact ⟨rfl, HU8.o⟩
 | true =>
  rw [hk] at HTk HR
  go_wp2_with fail
  refine (HTk.o).mono ?_
  rintro e w4 ⟨rfl, h9⟩
  have HU4 := Ho (HU3.o.trans h9)
  have HA4 := Ho (HA3.o.up h9)
  clear h9
  dsimp only
  have HTg := Ho (isTarget_walk t (by omega) w4)
  cases hg : tgt t.data.toList with
  | false =>
   rw [hg] at HTg HR
   have HE := Ho (show rv = rlR ad (.error 3) by rw [← HR.o]; rfl)
   go_wp2_with fail
   refine (HTg.o).mono ?_
   rintro e w5 ⟨rfl, h9⟩
   have HU5 := Ho (HU4.o.trans h9)
   have HA5 := Ho (HA4.o.up h9)
   clear h9
   dsimp only
   go_wp2
   refine wp_region_held_drew (S := fun w2 => (∃ cs, cs.length = 6 ∧ At w2 w.heap.size 48 cs) ∧ GE w2 ad ∧ Up w w2) (by kernel_rfl) ⟨⟨z6, rfl, HA5.o.up (Up.refl _).drew⟩, HG.o.up HU5.o.drew, HU5.o.drew⟩ (fun hS => ?_)
   refine tK 0 (some 37) (.build 48 #[]) 48 (.agg z6.toArray) hS ?_ ?_
   · intro _ _ w5 hSw
     clear hSw hS
     go_simp
     rfl
   simp only [pA, pB, pC, pD]
   refine tK 1 (some 38) (.load 106 (.global 3)) 106 (ev (ad 3)) hS ?_ ?_
   · intro _ _ w5 hSw
     have hgl : w5.cell? ⟨3, 0, none⟩ = _ := hSw.2.1.gl 3 (by decide)
     clear hSw hS
     go_simp
   simp only [pA, pB, pC, pD]
   refine rD 2 none (.store 48 (.tmp 2) (.tmp 37)) 0 fun _ _ K hK => oper_of_list ?_
   obtain ⟨⟨cs, hcl, hcs2⟩, hS1, hS2⟩ := hS
   refine wpList_store_at rfl 48 _ _ rfl w.heap.size hcs2 z6 rfl rfl hcl.symm (by kernel_rfl) (by kernel_rfl) ?_
   intro w8 hA8 hg8
   have HA8 := Ho hA8
   have HU8 := Ho (hS2.bz hg8)
   clear hA8 hg8 hcs2 hS2 hS1
   refine hK.out _ _ ⟨⟨_, rfl, HA8.o⟩, HG.o.up HU8.o, HU8.o⟩ (fun hS => ?_)
   clear hK K
   refine tN 3 (some 3) (.assign (.tmp 38)) 106 (ev (ad 3)) hS ?_
   simp only [Act.put, pB, pC, pD]
   clear hS
   refine wpAnyH_done (by kernel_rfl) ?_ _
   repeat go_step
   refine bodyPost_ret (result_cell_tmp Tryz.results116 _ _ w.heap.size z6 _ rfl rfl HA8.o.range Tryz.underlying48 rfl (by kernel_rfl)) rfl ?_
   rw [HE.o]
   exact ⟨rfl, HU8.o⟩
  | true =>
   rw [hg] at HTg HR
   go_wp2_with fail
   refine (HTg.o).mono ?_
   rintro e w5 ⟨rfl, h9⟩
   have HU5 := Ho (HU4.o.trans h9)
   have HA5 := Ho (HA4.o.up h9)
   clear h9
   dsimp only
   have HVk := Ho (isVersion_walk v w5)
   cases hvk : vok v.data.toList with
   | false =>
    rw [hvk] at HVk HR
    have HE := Ho (show rv = rlR ad (.error 3) by rw [← HR.o]; rfl)
    go_wp2_with fail
    refine HVk.o.mono ?_
    rintro e w9 ⟨rfl, h9⟩
    obtain rfl := h9.symm
    clear h9
    dsimp only
    go_wp2
    refine wp_region_held_drew (S := fun w2 => (∃ cs, cs.length = 6 ∧ At w2 w.heap.size 48 cs) ∧ GE w2 ad ∧ Up w w2) (by kernel_rfl) ⟨⟨z6, rfl, HA5.o.up (Up.refl _).drew⟩, HG.o.up HU5.o.drew, HU5.o.drew⟩ (fun hS => ?_)
    refine tK 0 (some 37) (.build 48 #[]) 48 (.agg z6.toArray) hS ?_ ?_
    · intro _ _ w5 hSw
      clear hSw hS
      go_simp
      rfl
    simp only [pA, pB, pC, pD]
    refine tK 1 (some 38) (.load 106 (.global 3)) 106 (ev (ad 3)) hS ?_ ?_
    · intro _ _ w5 hSw
      have hgl : w5.cell? ⟨3, 0, none⟩ = _ := hSw.2.1.gl 3 (by decide)
      clear hSw hS
      go_simp
    simp only [pA, pB, pC, pD]
    refine rD 2 none (.store 48 (.tmp 2) (.tmp 37)) 0 fun _ _ K hK => oper_of_list ?_
    obtain ⟨⟨cs, hcl, hcs2⟩, hS1, hS2⟩ := hS
    refine wpList_store_at rfl 48 _ _ rfl w.heap.size hcs2 z6 rfl rfl hcl.symm (by kernel_rfl) (by kernel_rfl) ?_
    intro w8 hA8 hg8
    have HA8 := Ho hA8
    have HU8 := Ho (hS2.bz hg8)
    clear hA8 hg8 hcs2 hS2 hS1
    refine hK.out _ _ ⟨⟨_, rfl, HA8.o⟩, HG.o.up HU8.o, HU8.o⟩ (fun hS => ?_)
    clear hK K
    refine tN 3 (some 3) (.assign (.tmp 38)) 106 (ev (ad 3)) hS ?_
    simp only [Act.put, pB, pC, pD]
    clear hS
    refine wpAnyH_done (by kernel_rfl) ?_ _
    repeat go_step
    refine bodyPost_ret (result_cell_tmp Tryz.results116 _ _ w.heap.size z6 _ rfl rfl HA8.o.range Tryz.underlying48 rfl (by kernel_rfl)) rfl ?_
    rw [HE.o]
    exact ⟨rfl, HU8.o⟩
   | true =>
    rw [hvk] at HVk HR
    go_wp2_with fail
    refine HVk.o.mono ?_
    rintro e w9 ⟨rfl, h9⟩
    obtain rfl := h9.symm
    clear h9
    dsimp only
    have HKm := Ho (isKnownMethod_walk m w5 (range_up HMM.o HU5.o))
    cases hkm : mtk m with
    | false =>
     rw [hkm] at HKm HR
     have HE := Ho (show rv = rlR ad (.error 10) by rw [← HR.o]; rfl)
     go_wp2_with fail
     refine (HKm.o).mono ?_
     rintro e w6 ⟨rfl, h9⟩
     have HU6 := Ho (HU5.o.trans h9)
     have HA6 := Ho (HA5.o.up h9)
     clear h9
     dsimp only
     go_wp2
     refine wp_region_held_drew (S := fun w2 => (∃ cs, cs.length = 6 ∧ At w2 w.heap.size 48 cs) ∧ GE w2 ad ∧ Up w w2) (by kernel_rfl) ⟨⟨z6, rfl, HA6.o.up (Up.refl _).drew⟩, HG.o.up HU6.o.drew, HU6.o.drew⟩ (fun hS => ?_)
     refine tK 0 (some 42) (.build 48 #[]) 48 (.agg z6.toArray) hS ?_ ?_
     · intro _ _ w5 hSw
       clear hSw hS
       go_simp
       rfl
     simp only [pA, pB, pC, pD]
     refine tK 1 (some 43) (.load 106 (.global 4)) 106 (ev (ad 10)) hS ?_ ?_
     · intro _ _ w5 hSw
       have hgl : w5.cell? ⟨4, 0, none⟩ = _ := hSw.2.1.gl 10 (by decide)
       clear hSw hS
       go_simp
     simp only [pA, pB, pC, pD]
     refine rD 2 none (.store 48 (.tmp 2) (.tmp 42)) 0 fun _ _ K hK => oper_of_list ?_
     obtain ⟨⟨cs, hcl, hcs2⟩, hS1, hS2⟩ := hS
     refine wpList_store_at rfl 48 _ _ rfl w.heap.size hcs2 z6 rfl rfl hcl.symm (by kernel_rfl) (by kernel_rfl) ?_
     intro w8 hA8 hg8
     have HA8 := Ho hA8
     have HU8 := Ho (hS2.bz hg8)
     clear hA8 hg8 hcs2 hS2 hS1
     refine hK.out _ _ ⟨⟨_, rfl, HA8.o⟩, HG.o.up HU8.o, HU8.o⟩ (fun hS => ?_)
     clear hK K
     refine tN 3 (some 3) (.assign (.tmp 43)) 106 (ev (ad 10)) hS ?_
     simp only [Act.put, pB, pC, pD]
     clear hS
     refine wpAnyH_done (by kernel_rfl) ?_ _
     repeat go_step
     refine bodyPost_ret (result_cell_tmp Tryz.results116 _ _ w.heap.size z6 _ rfl rfl HA8.o.range Tryz.underlying48 rfl (by kernel_rfl)) rfl ?_
     rw [HE.o]
     exact ⟨rfl, HU8.o⟩
    | true =>
     rw [hkm] at HKm HR
     go_wp2_with fail
     refine (HKm.o).mono ?_
     rintro e w6 ⟨rfl, h9⟩
     have HU6 := Ho (HU5.o.trans h9)
     have HA6 := Ho (HA5.o.up h9)
     clear h9
     dsimp only
     have HMn := Ho (minorOf_walk ad v w6 (HG.o.up HU6.o) (HNN.o.up HU6.o))
     cases hmn : mno v with
     | error k =>
      have hk4 := mno_er hmn
      subst hk4
      rw [hmn] at HMn HR
      have HE := Ho (show rv = rlR ad (.error 4) by rw [← HR.o]; rfl)
      unfold mnR at HMn
      dsimp only at HMn
      go_wp2_with fail
      refine (HMn.o).mono ?_
      rintro e w7 ⟨rfl, h9⟩
      have HU7 := Ho (HU6.o.trans h9)
      have HA7 := Ho (HA6.o.up h9)
      clear h9
      dsimp only
      go_wp2_with (with_reducible refine sS 48 ?_)
      show wpList _ _ _ _ _ _
      refine wpList_store_at rfl 48 _ _ rfl w.heap.size HA7.o z6 rfl rfl rfl (by kernel_rfl) (by kernel_rfl) ?_
      intro w8 hA8 hg8
      have HA8 := Ho hA8
      have HU8 := Ho (HU7.o.bz hg8)
      clear hA8 hg8
      simp only [Act.put]
      repeat go_step
      refine bodyPost_ret (result_cell_tmp Tryz.results116 _ _ w.heap.size z6 _ rfl rfl HA8.o.range Tryz.underlying48 rfl (by kernel_rfl)) rfl ?_
      rw [HE.o]
      exact ⟨rfl, HU8.o⟩
     | ok n =>
      rw [hmn] at HMn HR
      have HE := Ho (show rv = .tuple #[.agg #[.string m, .string t, .int .i64 n, .slice none 0 0, .slice none 0 0, .bool false], .nilIface] by rw [← HR.o]; unfold rlR; simp [vs_data'])
      unfold mnR at HMn
      dsimp only at HMn
      go_wp2_with fail
      refine (HMn.o).mono ?_
      rintro e w7 ⟨rfl, h9⟩
      have HU7 := Ho (HU6.o.trans h9)
      have HA7 := Ho (HA6.o.up h9)
      clear h9
      dsimp only
      go_wp2_with (with_reducible refine sS 48 ?_)
      show wpList _ _ _ _ _ _
      refine wpList_store_at rfl 48 _ _ rfl w.heap.size HA7.o [.string m, .string t, .int .i64 n, .slice none 0 0, .slice none 0 0, .bool false] rfl rfl rfl (by kernel_rfl) (by kernel_rfl) ?_
      intro w8 hA8 hg8
      have HA8 := Ho hA8
      have HU8 := Ho (HU7.o.bz hg8)
      clear hA8 hg8
      simp only [Act.put]
      repeat go_step
      refine bodyPost_ret (result_cell_tmp Tryz.results116 _ _ w.heap.size [.string m, .string t, .int .i64 n, .slice none 0 0, .slice none 0 0, .bool false] _ rfl rfl HA8.o.range Tryz.underlying48 rfl (by kernel_rfl)) rfl ?_
      rw [HE.o]
      exact ⟨rfl, HU8.o⟩
end Go.Proofs.YtehnnlhoajdcaaaGreatDoor
