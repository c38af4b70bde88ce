import Derived.Test.YtehnnlhoajdcaaaGreatDoorMi
import Derived.Test.YtehnnlhoajdcaaaGreatDoorNy
import Derived.Test.YtehnnlhoajdcaaaGreatDoorSo
namespace Go.Proofs.YtehnnlhoajdcaaaGreatDoor
open Go.RowKit Go.Shelf TextNum
def bks : ByteArray := ⟨#[32, 9]⟩
def trm (l : List UInt8) : List UInt8 := Go.Lib.trimS l bks.data.toList
theorem bks_ascii : ∀ (j : Nat) b, bks.data.toList[j]? = some b → b.toNat < 128 := fun j b hj => by
 have h : ∀ b ∈ bks.data.toList, b.toNat < 128 := by decide +kernel
 exact h b (List.mem_of_getElem? hj)
theorem trm_len (l : List UInt8) : (trm l).length ≤ l.length := by
 unfold trm Go.Lib.trimS Go.Lib.trimLeftS Go.Lib.trimRightS
 refine Nat.le_trans (List.dropWhile_sublist _).length_le ?_
 rw [List.length_reverse]
 refine Nat.le_trans (List.dropWhile_sublist _).length_le ?_
 rw [List.length_reverse]
 exact Nat.le_refl _
theorem Tryz.zv116t (w : World) : (zeroValue (Tryz.lays160_ren.t 116)).run Tryz.prog w = .ok (.agg (Array.replicate 256 (.bool false))) w := by kernel_rfl
theorem Tryz.iv116t : (Tryz.prog.info? (Tryz.lays160_ren.t 116)).map (·.size) = some 256 := by kernel_rfl
set_option maxRecDepth 100000 in
theorem trim_walk (s : ByteArray) (hs : s.size ≤ 4611686018427387904) (w : World) : Calls Tryz.prog 98 #[.string s] w fun e w' => e = .returned (vs (trm s.data.toList)) ∧ Up w w' := by
 have HT := Ho (Any.strings_Trim_ascii Tryz.lays160 Tryz.zv116t Tryz.iv116t s bks w (by omega) (by decide +kernel) bks_ascii)
 unfold bks at HT
 go_enter Tryz.func98, Tryz.ntmps98
 go_wp2_with fail
 refine HT.o.mono ?_
 rintro e w2 ⟨rfl, h9⟩
 have HU2 := Ho (show Up w w2 from h9)
 clear h9
 dsimp only
 go_wp2
 go_ret
 exact ⟨rfl, HU2.o⟩
set_option maxRecDepth 100000 in
theorem mayBeField_walk (n v : ByteArray) (hn : n.size ≤ 1099511627776) (hv : v.size ≤ 1099511627776) (w : World) : Calls Tryz.prog 134 #[.agg #[.string n, .string v]] w fun e w' => e = .returned (.bool (tok n.data.toList && vlu v.data.toList)) ∧ Up w w' := by
 have HU0 := Ho ((Up.refl w).alloc (.cells #[.string n, .string v] 89))
 have HA := Ho (at_new w 89 [.string n, .string v])
 have HTk := Ho (isToken_walk n hn (w.alloc (.cells #[.string n, .string v] 89)))
 cases ht : tok n.data.toList with
 | false =>
  rw [ht] at HTk
  go_enter Tryz.func134, Tryz.ntmps134
  go_wp2_with fail
  refine HTk.o.mono ?_
  rintro e w2 ⟨rfl, h9⟩
  have HU2 := Ho (HU0.o.trans h9)
  clear h9
  dsimp only
  go_wp2
  go_ret
  exact ⟨rfl, HU2.o⟩
 | true =>
  rw [ht] at HTk
  have HVl := Ho (fun w2 => mayBeValue_walk v hv w2)
  go_enter Tryz.func134, Tryz.ntmps134
  go_wp2_with fail
  refine HTk.o.mono ?_
  rintro e w2 ⟨rfl, h9⟩
  have HU2 := Ho (HU0.o.trans h9)
  have c1 : w2.cell? ⟨w.heap.size, 1, none⟩ = some (.string v) := h9.cell (HA.o.cell (i := 1) rfl)
  clear h9
  dsimp only
  go_wp2_with fail
  refine (HVl.o w2).mono ?_
  rintro e w3 ⟨rfl, h9⟩
  have HU3 := Ho (HU2.o.trans h9)
  clear h9
  dsimp only
  go_wp2
  go_ret
  exact ⟨by first | rfl | simp, HU3.o⟩
def z2 : List Value := [.int .i64 0, .int .i64 0]
def frl (v : List UInt8) : Er (Int × Nat) := if (prs v 1048576).2 = 0 then .ok (2, (prs v 1048576).1.toNat) else if (prs v 1048576).2 = 63 then .error 7 else .error 5
def frR (ad : Nat → Addr) : Er (Int × Nat) → Value
 | .error k => .tuple #[.agg z2.toArray, ev (ad k)]
 | .ok (way, n) => .tuple #[.agg #[.int .i64 way, .int .i64 (n : Int)], .nilIface]
theorem prs_ge (l : List UInt8) : 0 ≤ (prs l 1048576).1 ∧ (prs l 1048576).1 ≤ 1048576 := by
 unfold prs
 split
 · decide
 split
 · split
   · dsimp only; omega
   decide
 decide
set_option maxRecDepth 100000 in
set_option maxHeartbeats 1000000 in
theorem framingByLength_walk (ad : Nat → Addr) (s : ByteArray) (w : World) (h : GE w ad) (hP : GP w) : Calls Tryz.prog 152 #[.string s] w fun e w' => e = .returned (frR ad (frl s.data.toList)) ∧ Up w w' := by
 have HG := Ho h
 have HA0 := Ho (at_new w 185 z2)
 have HU0 := Ho ((Up.refl w).alloc (.cells z2.toArray 185))
 have HPN := Ho (ParseNumber_walk s 1048576 (w.alloc (.cells z2.toArray 185)) (hP.up HU0.o))
 have hge := prs_ge s.data.toList
 clear h hP
 obtain ⟨rv, hrv⟩ := ny (frR ad (frl s.data.toList))
 have HR := Ho hrv
 rw [hrv]
 clear hrv
 unfold frl at HR
 generalize prs s.data.toList 1048576 = p at *
 obtain ⟨n, e0⟩ := p
 dsimp only at HR HPN hge
 go_enter Tryz.func152, Tryz.ntmps152
 go_wp2_with fail
 change Calls _ _ _ (w.alloc (.cells z2.toArray 185)) _
 generalize w.alloc (.cells z2.toArray 185) = w1 at *
 refine HPN.o.mono ?_
 rintro e w2 ⟨rfl, h9⟩
 have HU2 := Ho (HU0.o.trans h9)
 have HA2 := Ho (HA0.o.up h9)
 clear h9 HPN
 dsimp only
 by_cases h0 : e0 = 0
 · have z0 : (e0 == 0) = true := by rw [h0]; rfl
   obtain ⟨k, rfl⟩ : ∃ k : Nat, n = (k : Int) := ⟨n.toNat, by omega⟩
   have HE := Ho (show rv = .tuple #[.agg #[.int .i64 2, .int .i64 (k : Int)], .nilIface] by rw [← HR.o, if_pos h0]; rfl)
   clear h0 hge
   go_wp2_with (with_reducible refine sS 185 ?_)
   show wpList _ _ _ _ _ _
   refine wpList_store_at rfl 185 _ _ rfl (w.heap.size) HA2.o [.int .i64 2, .int .i64 (k : Int)] rfl rfl rfl (by kernel_rfl) (by kernel_rfl) ?_
   intro w8 hA8 hg8
   have HA8 := Ho hA8
   have HU8 := Ho (HU2.o.bz hg8)
   clear hA8 hg8
   simp only [Act.put]
   repeat go_step
   refine bodyPost_ret (result_cell_tmp Tryz.results152 _ _ (w.heap.size) [.int .i64 2, .int .i64 (k : Int)] _ rfl rfl HA8.o.range Tryz.underlying185 rfl (by kernel_rfl)) rfl ?_
   rw [HE.o]
   exact ⟨rfl, HU8.o⟩
 have z0 : (e0 == 0) = false := by rw [beq_eq_false_iff_ne]; exact h0
 by_cases h1 : e0 = 63
 case' _ =>
  have z1 : (e0 == 63) = true := by rw [h1]; rfl
  have HE := Ho (show rv = frR ad (.error 7) by rw [← HR.o, if_neg h0, if_pos h1])
  clear h0 h1 hge
  go_wp2
  refine wp_region_held_drew (S := fun w2 => (∃ cs, cs.length = 2 ∧ At w2 w.heap.size 185 cs) ∧ GE w2 ad ∧ Up w w2) (by kernel_rfl) ⟨⟨z2, rfl, HA2.o.up (Up.refl _).drew⟩, HG.o.up HU2.o.drew, HU2.o.drew⟩ (fun hS => ?_)
  refine tK 0 (some 18) (.build 185 #[]) 185 (.agg z2.toArray) hS ?_ ?_
  · intro _ _ w5 hSw
    clear hSw hS
    go_simp
    rfl
  simp only [Act.put, pB, pC, pD]
  refine tK 1 (some 19) (.load 106 (.global 6)) 106 (ev (ad 7)) hS ?_ ?_
  · intro _ _ w5 hSw
    have hgl : w5.cell? ⟨6, 0, none⟩ = _ := hSw.2.1.gl 7 (by decide)
    clear hSw hS
    go_simp
  simp only [pA, pB, pC, pD]
  refine rD 2 none (.store 185 (.tmp 2) (.tmp 18)) 0 fun _ _ K hK => oper_of_list ?_
  obtain ⟨⟨cs, hcl, hcs2⟩, hS1, hS2⟩ := hS
  refine wpList_store_at rfl 185 _ _ rfl (w.heap.size) hcs2 z2 rfl rfl hcl.symm (by kernel_rfl) (by kernel_rfl) ?_
  intro w8 hA8 hg8
  have HA8 := Ho hA8
  have HU8 := Ho (hS2.bz hg8)
  clear hA8 hg8 hcs2 hS2 hS1
  refine hK.out _ _ ⟨⟨_, rfl, HA8.o⟩, HG.o.up HU8.o, HU8.o⟩ (fun hS => ?_)
  clear hK K
  refine tN 3 (some 3) (.assign (.tmp 19)) 106 (ev (ad 7)) hS ?_
 rotate_left
 case' _ =>
  have z1 : (e0 == 63) = false := by rw [beq_eq_false_iff_ne]; exact h1
  have HE := Ho (show rv = frR ad (.error 5) by rw [← HR.o, if_neg h0, if_neg h1])
  clear h0 h1 hge
  go_wp2
  refine wp_region_held_drew (S := fun w2 => (∃ cs, cs.length = 2 ∧ At w2 w.heap.size 185 cs) ∧ GE w2 ad ∧ Up w w2) (by kernel_rfl) ⟨⟨z2, rfl, HA2.o.up (Up.refl _).drew⟩, HG.o.up HU2.o.drew, HU2.o.drew⟩ (fun hS => ?_)
  refine tK 0 (some 20) (.build 185 #[]) 185 (.agg z2.toArray) hS ?_ ?_
  · intro _ _ w5 hSw
    clear hSw hS
    go_simp
    rfl
  simp only [pA, pB, pC, pD]
  refine tK 1 (some 21) (.load 106 (.global 15)) 106 (ev (ad 5)) hS ?_ ?_
  · intro _ _ w5 hSw
    have hgl : w5.cell? ⟨15, 0, none⟩ = _ := hSw.2.1.gl 5 (by decide)
    clear hSw hS
    go_simp
  simp only [pA, pB, pC, pD]
  refine rD 2 none (.store 185 (.tmp 2) (.tmp 20)) 0 fun _ _ K hK => oper_of_list ?_
  obtain ⟨⟨cs, hcl, hcs2⟩, hS1, hS2⟩ := hS
  refine wpList_store_at rfl 185 _ _ rfl (w.heap.size) hcs2 z2 rfl rfl hcl.symm (by kernel_rfl) (by kernel_rfl) ?_
  intro w8 hA8 hg8
  have HA8 := Ho hA8
  have HU8 := Ho (hS2.bz hg8)
  clear hA8 hg8 hcs2 hS2 hS1
  refine hK.out _ _ ⟨⟨_, rfl, HA8.o⟩, HG.o.up HU8.o, HU8.o⟩ (fun hS => ?_)
  clear hK K
  refine tN 3 (some 3) (.assign (.tmp 21)) 106 (ev (ad 5)) hS ?_
 all_goals
  simp only [Act.put, pB, pC, pD]
  clear hS
  refine wpAnyH_done (by kernel_rfl) ?_ _
  repeat go_step
  refine bodyPost_ret (result_cell_tmp Tryz.results152 _ _ (w.heap.size) z2 _ rfl rfl HA8.o.range Tryz.underlying185 rfl (by kernel_rfl)) rfl ?_
  rw [HE.o]
  exact ⟨rfl, HU8.o⟩
def isc (f : FD) : Bool := kdf f.n == 3
def tls (f : FD) : Bool := kdf f.n == 3 || kdf f.n == 4
def chw : ByteArray := ⟨#[99, 104, 117, 110, 107, 101, 100]⟩
def bdc (minor : Int) (f : FD) : Bool := isc f && (minor == 0 || !(lws f.v.data.toList == lws chw.data.toList))
def lst (fs : List FD) : ByteArray := match (fs.filter tls).getLast? with
 | none => ⟨#[]⟩
 | some f => f.v
def frm (fs : List FD) (minor untold : Int) : Er (Int × Nat) :=
 if fs.any (bdc minor) = true then .error 5 else if 1 < fs.countP tls then .error 5 else if fs.countP tls = 0 then .ok (untold, 0) else if fs.any isc = true then .ok (3, 0) else frl (lst fs).data.toList
theorem lst_yes {fs : List FD} {f : FD} (h : tls f = true) : lst (fs ++ [f]) = f.v := by
 unfold lst
 rw [List.filter_append]
 simp [h]
theorem lst_no {fs : List FD} {f : FD} (h : tls f = false) : lst (fs ++ [f]) = lst fs := by
 unfold lst
 rw [List.filter_append]
 simp [h]
set_option maxRecDepth 100000 in
set_option maxHeartbeats 2000000 in
theorem framingOf_walk (ad : Nat → Addr) (a : Option Addr) (fs : List FD) (c : Nat) (minor untold : Int) (w : World) (h : FdL w a fs c) (hl : fs.length ≤ 1048576) (hs : ∀ f ∈ fs, f.v.size ≤ 1048576) (hE : GE w ad) (hK : w.rangeAt 13 0 kdC) (hP : GP w) :
  Calls Tryz.prog 118 #[.slice a fs.length c, .int .i64 minor, .int .i64 untold] w fun e w' => e = .returned (frR ad (frm fs minor untold)) ∧ Up w w' := by
 have HF := Ho h
 have HS := Ho hs
 have HG := Ho hE
 have HKd := Ho hK
 have HPp := Ho hP
 have hcap := h.cap
 have HA0 := Ho (at_new w 185 z2)
 have HU0 := Ho ((Up.refl w).alloc (.cells z2.toArray 185))
 clear h hs hE hK hP
 obtain ⟨rv, hrv⟩ := ny (frR ad (frm fs minor untold))
 have HR := Ho hrv
 rw [hrv]
 clear hrv
 go_enter Tryz.func118, Tryz.ntmps118
 go_wp2
 go_loopw [8, 9, 10, 15] (fun v8 v9 v10 v15 wr => ∃ (i k : Nat) (ch : Bool) (ln : ByteArray), v15 = .int .i64 (i : Int) ∧ v8 = .int .i64 (k : Int) ∧ v9 = .bool ch ∧ v10 = .string ln ∧ i ≤ fs.length ∧ k ≤ i ∧ Hd (Up w wr ∧ At wr w.heap.size 185 z2 ∧ (fs.take i).any (bdc minor) = false ∧ (fs.take i).countP tls = k ∧ (fs.take i).any isc = ch ∧ lst (fs.take i) = ln)) (fun _ _ _ v15 _ => fs.length - (intOf v15).toNat)
 case atStart => exact ⟨0, 0, false, ⟨#[]⟩, rfl, rfl, rfl, rfl, Nat.zero_le _, Nat.le_refl _, Ho ⟨HU0.o, HA0.o, rfl, rfl, rfl, rfl⟩⟩
 case round =>
  obtain ⟨i, k, ch, ln, rfl, rfl, rfl, rfl, hi, hki, hU⟩ := hrel
  have HU := Ho hU.o
  clear hU
  by_cases hil : i < fs.length
  · have hilz : (i : Int) < (fs.length : Int) := by omega
    obtain ⟨b, off, rfl, k1, k2⟩ := HF.o.cells i hil
    have hsz := HU0.o.size
    have HRg := Ho (range2 (HU.o.1.cell k1) (HU.o.1.cell k2))
    have HT := Ho (List.take_succ_eq_append_getElem hil)
    have HMm := Ho (List.getElem_mem hil)
    obtain ⟨f, hf⟩ := ny (fs[i])
    rw [hf] at HRg HT HMm
    have hfs := HS.o _ HMm.o
    clear hf k1 k2 hsz
    go_wp2_with (with_reducible refine sI 36 ?_)
    show wpList _ _ _ _ _ _
    refine wpList_val7 (.pointer (some ⟨b, off + i * 2, none⟩)) rfl (exec_idxFd i hil rfl rfl rfl) ?_
    simp only [Act.put, pB, pC, pD]
    refine wpList_load_mid rfl _ _ rfl b (off + i * 2) rfl [.string f.n, .string f.v] _ HRg.o Tryz.underlying89 rfl infoFd2 ?_
    simp only [Act.put, pB, pC, pD]
    have HAt := Ho (at_new wr 89 [.string f.n, .string f.v])
    have HUa := Ho (HU.o.1.alloc (.cells [.string f.n, .string f.v].toArray 89))
    have HZa := Ho (HU.o.2.1.up ((Up.refl wr).alloc (.cells [.string f.n, .string f.v].toArray 89)))
    go_wp2_with (with_reducible refine sL 89 ?_)
    show wpList _ _ _ _ _ _
    refine wpList_load_mid rfl _ _ rfl wr.heap.size 0 rfl [.string f.n, .string f.v] _ HAt.o.range Tryz.underlying89 rfl infoFd2 ?_
    simp only [Act.put, pB, pC, pD]
    go_wp2_with fail
    refine (kindOf_walk f.n f.v _ (range_up HKd.o HUa.o)).mono ?_
    rintro e w5 ⟨rfl, u5⟩
    have HU5 := Ho (HUa.o.trans u5)
    have HZ5 := Ho (HZa.o.up u5)
    have cv : w5.cell? ⟨wr.heap.size, 1, none⟩ = some (.string f.v) := (HAt.o.up u5).cell (i := 1) rfl
    clear u5 HAt HUa HZa
    dsimp only
    cases hk3 : (kdf f.n == 3) with
    | true =>
     have htl : tls f = true := by unfold tls; rw [hk3]; rfl
     have hisc : isc f = true := hk3
     have HC2 := Ho (show (fs.take (i + 1)).countP tls = k + 1 by rw [HT.o, List.countP_append, HU.o.2.2.2.1]; simp [htl])
     have HI2 := Ho (show (fs.take (i + 1)).any isc = true by rw [HT.o, List.any_append]; simp [hisc])
     have HL2 := Ho (show lst (fs.take (i + 1)) = f.v by rw [HT.o]; exact lst_yes htl)
     clear htl
     have HBad := Ho (show bdc minor f = true → rv = frR ad (.error 5) from fun hb => by
      rw [← HR.o]
      unfold frm
      rw [if_pos (List.any_eq_true.2 ⟨f, HMm.o, hb⟩)])
     have HGood := Ho (show bdc minor f = false → (fs.take (i + 1)).any (bdc minor) = false from fun hb => by
      rw [HT.o, List.any_append, HU.o.2.2.1]; simp [hb])
     by_cases hm : minor = 0
     · have hm0 : (minor == 0) = true := by rw [hm]; rfl
       have HE := Ho (HBad.o (by unfold bdc; rw [hisc, hm0]; rfl))
       clear hm hisc
       go_wp2
       refine wp_region_held_drew (S := fun w2 => (∃ cs, cs.length = 2 ∧ At w2 w.heap.size 185 cs) ∧ GE w2 ad ∧ Up w w2) (by kernel_rfl) ⟨⟨z2, rfl, HZ5.o.up (Up.refl _).drew⟩, HG.o.up HU5.o.drew, HU5.o.drew⟩ (fun hS => ?_)
       refine tK 0 (some 33) (.build 185 #[]) 185 (.agg z2.toArray) hS ?_ ?_
       · intro _ _ w5 hSw
         clear hSw hS
         go_simp
         rfl
       simp only [pA, pB, pC, pD]
       refine tK 1 (some 34) (.load 106 (.global 15)) 106 (ev (ad 5)) hS ?_ ?_
       · intro _ _ w5 hSw
         have hgl : w5.cell? ⟨15, 0, none⟩ = _ := hSw.2.1.gl 5 (by decide)
         clear hSw hS
         go_simp
       simp only [pA, pB, pC, pD]
       refine rD 2 none (.store 185 (.tmp 6) (.tmp 33)) 0 fun _ _ K hK => oper_of_list ?_
       obtain ⟨⟨cs, hcl, hcs2⟩, hS1, hS2⟩ := hS
       refine wpList_store_at rfl 185 _ _ rfl (w.heap.size) hcs2 z2 rfl rfl hcl.symm (by kernel_rfl) (by kernel_rfl) ?_
       intro w8 hA8 hg8
       have HA8 := Ho hA8
       have HU8 := Ho (hS2.bz hg8)
       clear hA8 hg8 hcs2 hS2 hS1
       refine hK.out _ _ ⟨⟨_, rfl, HA8.o⟩, HG.o.up HU8.o, HU8.o⟩ (fun hS => ?_)
       clear hK K
       refine tN 3 (some 7) (.assign (.tmp 34)) 106 (ev (ad 5)) hS ?_
       simp only [Act.put, pB, pC, pD]
       clear hS
       refine wpAnyH_done (by kernel_rfl) ?_ _
       repeat go_step
       refine bodyPost_ret (result_cell_tmp Tryz.results118 _ _ (w.heap.size) z2 _ rfl rfl HA8.o.range Tryz.underlying185 rfl (by kernel_rfl)) rfl ?_
       rw [HE.o]
       exact ⟨rfl, HU8.o⟩
     have hm0 : (minor == 0) = false := by rw [beq_eq_false_iff_ne]; exact hm
     have HSW := Ho (sameWord_walk f.v chw w5 (by omega))
     unfold chw at HSW
     cases hsw : (lws f.v.data.toList == lws (⟨#[99, 104, 117, 110, 107, 101, 100]⟩ : ByteArray).data.toList) with
     | false =>
      rw [hsw] at HSW
      have HE := Ho (HBad.o (by unfold bdc chw; rw [hisc, hm0, hsw]; rfl))
      clear hm hisc hsw
      go_wp2_with fail
      refine HSW.o.mono ?_
      rintro e w6 ⟨rfl, h9⟩
      have HU6 := Ho (HU5.o.trans h9)
      have HZ6 := Ho (HZ5.o.up h9)
      clear h9
      dsimp only
      go_wp2
      refine wp_region_held_drew (S := fun w2 => (∃ cs, cs.length = 2 ∧ At w2 w.heap.size 185 cs) ∧ GE w2 ad ∧ Up w w2) (by kernel_rfl) ⟨⟨z2, rfl, HZ6.o.up (Up.refl _).drew⟩, HG.o.up HU6.o.drew, HU6.o.drew⟩ (fun hS => ?_)
      refine tK 0 (some 33) (.build 185 #[]) 185 (.agg z2.toArray) hS ?_ ?_
      · intro _ _ w5 hSw
        clear hSw hS
        go_simp
        rfl
      simp only [pA, pB, pC, pD]
      refine tK 1 (some 34) (.load 106 (.global 15)) 106 (ev (ad 5)) hS ?_ ?_
      · intro _ _ w5 hSw
        have hgl : w5.cell? ⟨15, 0, none⟩ = _ := hSw.2.1.gl 5 (by decide)
        clear hSw hS
        go_simp
      simp only [pA, pB, pC, pD]
      refine rD 2 none (.store 185 (.tmp 6) (.tmp 33)) 0 fun _ _ K hK => oper_of_list ?_
      obtain ⟨⟨cs, hcl, hcs2⟩, hS1, hS2⟩ := hS
      refine wpList_store_at rfl 185 _ _ rfl (w.heap.size) hcs2 z2 rfl rfl hcl.symm (by kernel_rfl) (by kernel_rfl) ?_
      intro w8 hA8 hg8
      have HA8 := Ho hA8
      have HU8 := Ho (hS2.bz hg8)
      clear hA8 hg8 hcs2 hS2 hS1
      refine hK.out _ _ ⟨⟨_, rfl, HA8.o⟩, HG.o.up HU8.o, HU8.o⟩ (fun hS => ?_)
      clear hK K
      refine tN 3 (some 7) (.assign (.tmp 34)) 106 (ev (ad 5)) hS ?_
      simp only [Act.put, pB, pC, pD]
      clear hS
      refine wpAnyH_done (by kernel_rfl) ?_ _
      repeat go_step
      refine bodyPost_ret (result_cell_tmp Tryz.results118 _ _ (w.heap.size) z2 _ rfl rfl HA8.o.range Tryz.underlying185 rfl (by kernel_rfl)) rfl ?_
      rw [HE.o]
      exact ⟨rfl, HU8.o⟩
     | true =>
      rw [hsw] at HSW
      have HB2 := Ho (HGood.o (by unfold bdc chw; rw [hisc, hm0, hsw]; rfl))
      clear hm hisc hsw
      go_wp2_with fail
      refine HSW.o.mono ?_
      rintro e w6 ⟨rfl, h9⟩
      have HU6 := Ho (HU5.o.trans h9)
      have HZ6 := Ho (HZ5.o.up h9)
      have cv6 := h9.cell cv
      clear h9
      dsimp only
      go_wp2
      go_roundw
      all_goals first
       | exact ⟨i + 1, k + 1, true, f.v, by go_num, by go_num, rfl, rfl, by omega, by omega, Ho ⟨HU6.o, HZ6.o, HB2.o, HC2.o, HI2.o, HL2.o⟩⟩
       | (simp [intOf]; omega)
    | false =>
     have hisc : isc f = false := hk3
     have HB2 := Ho (show (fs.take (i + 1)).any (bdc minor) = false by rw [HT.o, List.any_append, HU.o.2.2.1]; simp [bdc, hisc])
     have HI2 := Ho (show (fs.take (i + 1)).any isc = ch by rw [HT.o, List.any_append, HU.o.2.2.2.2.1]; simp [hisc])
     clear hisc
     cases hk4 : (kdf f.n == 4) with
     | true =>
      have htl : tls f = true := by unfold tls; rw [hk3, hk4]; rfl
      have HC2 := Ho (show (fs.take (i + 1)).countP tls = k + 1 by rw [HT.o, List.countP_append, HU.o.2.2.2.1]; simp [htl])
      have HL2 := Ho (show lst (fs.take (i + 1)) = f.v by rw [HT.o]; exact lst_yes htl)
      clear htl
      go_wp2
      go_roundw
      all_goals first
       | exact ⟨i + 1, k + 1, ch, f.v, by go_num, by go_num, rfl, rfl, by omega, by omega, Ho ⟨HU5.o, HZ5.o, HB2.o, HC2.o, HI2.o, HL2.o⟩⟩
       | (simp [intOf]; omega)
     | false =>
      have htl : tls f = false := by unfold tls; rw [hk3, hk4]; rfl
      have HC2 := Ho (show (fs.take (i + 1)).countP tls = k by rw [HT.o, List.countP_append, HU.o.2.2.2.1]; simp [htl])
      have HL2 := Ho (show lst (fs.take (i + 1)) = ln by rw [HT.o, lst_no htl, HU.o.2.2.2.2.2])
      clear htl
      go_wp2
      go_roundw
      all_goals first
       | exact ⟨i + 1, k, ch, ln, by go_num, rfl, rfl, rfl, by omega, by omega, Ho ⟨HU5.o, HZ5.o, HB2.o, HC2.o, HI2.o, HL2.o⟩⟩
       | (simp [intOf]; omega)
  have hilz : ¬ (i : Int) < (fs.length : Int) := by omega
  have HTk := Ho (show fs.take i = fs from List.take_of_length_le (by omega))
  have HR2 := Ho (show rv = frR ad (if 1 < k then .error 5 else if k = 0 then .ok (untold, 0) else if ch = true then .ok (3, 0) else frl ln.data.toList) by
   have h1 := HU.o.2.2.1
   have h2 := HU.o.2.2.2.1
   have h3 := HU.o.2.2.2.2.1
   have h4 := HU.o.2.2.2.2.2
   rw [HTk.o] at h1 h2 h3 h4
   rw [← HR.o]
   unfold frm
   rw [if_neg (by rw [h1]; simp), h2, h3, h4])
  have HU5 := Ho HU.o.1
  have HZ5 := Ho HU.o.2.1
  clear HU HTk HR
  by_cases hk1 : 1 < k
  · have hkz : (1 : Int) < (k : Int) := by omega
    have HE := Ho (show rv = frR ad (.error 5) by rw [HR2.o, if_pos hk1])
    go_wp2
    refine wp_region_held_drew (S := fun w2 => (∃ cs, cs.length = 2 ∧ At w2 w.heap.size 185 cs) ∧ GE w2 ad ∧ Up w w2) (by kernel_rfl) ⟨⟨z2, rfl, HZ5.o.up (Up.refl _).drew⟩, HG.o.up HU5.o.drew, HU5.o.drew⟩ (fun hS => ?_)
    refine tK 0 (some 43) (.build 185 #[]) 185 (.agg z2.toArray) hS ?_ ?_
    · intro _ _ w5 hSw
      clear hSw hS
      go_simp
      rfl
    simp only [pA, pB, pC, pD]
    refine tK 1 (some 44) (.load 106 (.global 15)) 106 (ev (ad 5)) hS ?_ ?_
    · intro _ _ w5 hSw
      have hgl : w5.cell? ⟨15, 0, none⟩ = _ := hSw.2.1.gl 5 (by decide)
      clear hSw hS
      go_simp
    simp only [pA, pB, pC, pD]
    refine rD 2 none (.store 185 (.tmp 6) (.tmp 43)) 0 fun _ _ K hK => oper_of_list ?_
    obtain ⟨⟨cs, hcl, hcs2⟩, hS1, hS2⟩ := hS
    refine wpList_store_at rfl 185 _ _ rfl (w.heap.size) hcs2 z2 rfl rfl hcl.symm (by kernel_rfl) (by kernel_rfl) ?_
    intro w8 hA8 hg8
    have HA8 := Ho hA8
    have HU8 := Ho (hS2.bz hg8)
    clear hA8 hg8 hcs2 hS2 hS1
    refine hK.out _ _ ⟨⟨_, rfl, HA8.o⟩, HG.o.up HU8.o, HU8.o⟩ (fun hS => ?_)
    clear hK K
    refine tN 3 (some 7) (.assign (.tmp 44)) 106 (ev (ad 5)) hS ?_
    simp only [Act.put, pB, pC, pD]
    clear hS
    refine wpAnyH_done (by kernel_rfl) ?_ _
    repeat go_step
    refine bodyPost_ret (result_cell_tmp Tryz.results118 _ _ (w.heap.size) z2 _ rfl rfl HA8.o.range Tryz.underlying185 rfl (by kernel_rfl)) rfl ?_
    rw [HE.o]
    exact ⟨rfl, HU8.o⟩
  have hkz : ¬ (1 : Int) < (k : Int) := by omega
  by_cases hk0 : k = 0
  · have hk0z : ((k : Int) == 0) = true := by rw [hk0]; rfl
    have HE := Ho (show rv = .tuple #[.agg #[.int .i64 untold, .int .i64 0], .nilIface] by rw [HR2.o, if_neg hk1, if_pos hk0]; rfl)
    clear hk0
    go_wp2_with (with_reducible refine sS 185 ?_)
    show wpList _ _ _ _ _ _
    refine wpList_store_at rfl 185 _ _ rfl (w.heap.size) HZ5.o [.int .i64 untold, .int .i64 0] rfl rfl rfl (by kernel_rfl) (by kernel_rfl) ?_
    intro w8 hA8 hg8
    have HA8 := Ho hA8
    have HU8 := Ho (HU5.o.bz hg8)
    clear hA8 hg8
    simp only [Act.put]
    repeat go_step
    refine bodyPost_ret (result_cell_tmp Tryz.results118 _ _ (w.heap.size) [.int .i64 untold, .int .i64 0] _ rfl rfl HA8.o.range Tryz.underlying185 rfl (by kernel_rfl)) rfl ?_
    rw [HE.o]
    exact ⟨rfl, HU8.o⟩
  have hk0z : ((k : Int) == 0) = false := by rw [beq_eq_false_iff_ne]; omega
  cases hch : ch with
  | true =>
   have HE := Ho (show rv = .tuple #[.agg #[.int .i64 3, .int .i64 0], .nilIface] by rw [HR2.o, if_neg hk1, if_neg hk0, if_pos hch]; rfl)
   subst hch
   go_wp2_with (with_reducible refine sS 185 ?_)
   show wpList _ _ _ _ _ _
   refine wpList_store_at rfl 185 _ _ rfl (w.heap.size) HZ5.o [.int .i64 3, .int .i64 0] rfl rfl rfl (by kernel_rfl) (by kernel_rfl) ?_
   intro w8 hA8 hg8
   have HA8 := Ho hA8
   have HU8 := Ho (HU5.o.bz hg8)
   clear hA8 hg8
   simp only [Act.put]
   repeat go_step
   refine bodyPost_ret (result_cell_tmp Tryz.results118 _ _ (w.heap.size) [.int .i64 3, .int .i64 0] _ rfl rfl HA8.o.range Tryz.underlying185 rfl (by kernel_rfl)) rfl ?_
   rw [HE.o]
   exact ⟨rfl, HU8.o⟩
  | false =>
   have HR3 := Ho (show rv = frR ad (frl ln.data.toList) by rw [HR2.o, if_neg hk1, if_neg hk0, if_neg (by rw [hch]; simp)])
   subst hch
   have HFB := Ho (framingByLength_walk ad ln wr (HG.o.up HU5.o) (HPp.o.up HU5.o))
   rw [← HR3.o] at HFB
   obtain ⟨cs, vr, hcs, hrv2, hcl, hc1⟩ : ∃ (cs : List Value) (vr : Value), rv = .tuple #[.agg cs.toArray, vr] ∧ True ∧ cs.length = 2 ∧ cs.toArray.all (·.oneCell') = true := by
    rw [HR3.o]
    unfold frR
    split
    · exact ⟨z2, _, rfl, trivial, rfl, by kernel_rfl⟩
    exact ⟨[_, _], _, rfl, trivial, rfl, by kernel_rfl⟩
   rw [hcs] at HFB
   have HE := Ho hcs
   clear hcs hrv2 HR3
   go_wp2_with fail
   refine HFB.o.mono ?_
   rintro e w6 ⟨rfl, h9⟩
   have HU6 := Ho (HU5.o.trans h9)
   have HZ6 := Ho (HZ5.o.up h9)
   clear h9
   dsimp only
   go_wp2_with (with_reducible refine sS 185 ?_)
   show wpList _ _ _ _ _ _
   refine wpList_store_at rfl 185 _ _ rfl (w.heap.size) HZ6.o cs rfl rfl hcl (by rw [List.size_toArray, hcl]; kernel_rfl) hc1 ?_
   intro w8 hA8 hg8
   have HA8 := Ho hA8
   have HU8 := Ho (HU6.o.bz hg8)
   clear hA8 hg8
   simp only [Act.put]
   repeat go_step
   refine bodyPost_ret (result_cell_tmp Tryz.results118 _ _ (w.heap.size) cs _ rfl rfl HA8.o.range Tryz.underlying185 rfl (by rw [hcl]; kernel_rfl)) rfl ?_
   rw [HE.o]
   exact ⟨rfl, HU8.o⟩
end Go.Proofs.YtehnnlhoajdcaaaGreatDoor
