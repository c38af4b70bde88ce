import Derived.Test.YtkaoalcffgnfeaaGreatDoorJe
import Derived.Test.YtkaoalcffgnfeaaGreatDoorJb
import Derived.Test.YtkaoalcffgnfeaaGreatDoorJa
namespace Go.Proofs.YtkaoalcffgnfeaaGreatDoor
open Go.RowKit Go.Shelf TextNum
def ckr (st mi : Int) (fs : List FD) (nb : Nat) : Option Nat :=
 if 16384 < szs fs then some 1 else if mnr mi = false then some 4 else if sto st = false then some 11 else
  match ckf fs with
  | some k => some k
  | none => if 1048576 < nb then some 7 else if 0 < nb ∧ bdl st = true then some 7 else none
def raF (st : Int) (fs : List FD) (n : Nat) : List FD := if bdl st = true then pfs fs else pfs fs ++ [lnf n]
def raS (st mi : Int) : List UInt8 := vtx mi ++ [32] ++ Go.Lib.itoa st ++ [32] ++ rsn st
def raQ (st mi : Int) (fs : List FD) (bd : List UInt8) : Er (List UInt8) := match ckr st mi (raF st fs bd.length) bd.length with
 | some k => .error k
 | none => .ok (prt (raS st mi) (raF st fs bd.length) bd)
theorem st_facts : ∀ k : Nat, k < 600 → 100 ≤ k → (10 : UInt8) ∉ Go.Lib.itoa (k : Int) ∧ (10 : UInt8) ∉ rsn (k : Int) ∧ (rsn (k : Int)).length ≤ 64 ∧ (Go.Lib.itoa (k : Int)).length = 3 := by decide +kernel
theorem sto_nat {st : Int} (h : sto st = true) : ∃ k : Nat, st = (k : Int) ∧ k < 600 ∧ 100 ≤ k := by
 unfold sto at h
 rw [Bool.and_eq_true, decide_eq_true_eq, decide_eq_true_eq] at h
 exact ⟨st.toNat, by omega, by omega, by omega⟩
theorem vtx_32 {mi : Int} (h : mnr mi = true) : (32 : UInt8) ∉ vtx mi ∧ (vtx mi).length = 8 := by
 rcases mnr_or h with rfl | rfl
 · rw [show vtx 0 = [72, 84, 84, 80, 47, 49, 46, 48] by decide +kernel]
   exact ⟨by decide +kernel, rfl⟩
 · rw [show vtx 1 = [72, 84, 84, 80, 47, 49, 46, 49] by decide +kernel]
   exact ⟨by decide +kernel, rfl⟩
theorem raS_no {st mi : Int} (hs : sto st = true) (hi : mnr mi = true) : (10 : UInt8) ∉ raS st mi ∧ (raS st mi).length ≤ 100 := by
 obtain ⟨k, rfl, hj1, hj2⟩ := sto_nat hs
 obtain ⟨f5, f6, f7, f8⟩ := st_facts k hj1 hj2
 obtain ⟨_, _, h3⟩ := vtx_facts hi
 obtain ⟨_, h4⟩ := vtx_32 hi
 refine ⟨?_, ?_⟩
 · unfold raS
   simp only [List.mem_append, List.mem_cons, List.not_mem_nil, or_false]
   rintro ((((h | h) | h) | h) | h)
   · exact h3 h
   · revert h; decide
   · exact f5 h
   · revert h; decide
   · exact f6 h
 · unfold raS
   simp only [List.length_append, List.length_cons, List.length_nil]
   omega
theorem ckr_lt {st mi : Int} {fs : List FD} {nb k : Nat} (h : ckr st mi fs nb = some k) : k < 12 := by
 unfold ckr at h
 repeat' split at h
 all_goals first
  | (cases h; done)
  | (injection h with h; subst h; decide)
  | (injection h with h; subst h; exact ckf_lt (by assumption))
theorem ckr_ok {st mi : Int} {fs : List FD} {nb : Nat} (h : ckr st mi fs nb = none) : szs fs ≤ 16384 ∧ mnr mi = true ∧ sto st = true ∧ ckf fs = none ∧ nb ≤ 1048576 ∧ (bdl st = true → nb = 0) := by
 unfold ckr at h
 repeat' split at h
 all_goals first
  | (cases h; done)
  | skip
 rename_i h1 h2 h3 _ h4 h5 h6
 refine ⟨by omega, by simpa using h2, by simpa using h3, h4, by omega, fun hb => ?_⟩
 rcases Nat.eq_zero_or_pos nb with h | h
 · exact h
 · exact absurd ⟨h, hb⟩ h6
theorem szs_raF (st : Int) (fs : List FD) (n : Nat) (h : n ≤ 1099511627776) : szs (raF st fs n) ≤ szs fs + 128 := by
 have h1 := szs_pfs fs
 unfold raF
 split
 · omega
 · rw [szs_snoc]
   have h2 : szf (lnf n) ≤ 128 := by
    have h3 := itoa_len (n : Int) (by omega) (by omega)
    have h4 : (⟨(Go.Lib.itoa (n : Int)).toArray⟩ : ByteArray).size = (Go.Lib.itoa (n : Int)).length := by simp [ByteArray.size]
    have h5 : ctlN.size = 14 := rfl
    unfold szf lnf
    dsimp only
    omega
   omega
end Go.Proofs.YtkaoalcffgnfeaaGreatDoor
namespace Go.Proofs.YtkaoalcffgnfeaaGreatDoor
open Go.RowKit Go.Shelf TextNum
set_option maxRecDepth 100000 in
set_option maxHeartbeats 4000000 in
theorem checkResponse_walk (ad : Nat → Addr) (st mi : Int) (af : Option Addr) (nf cf : Nat) (ab : Option Addr) (nb cb' : Nat) (cl : Bool) (a : Option Addr) (fs : List FD) (c : Nat) (w : World) (h : FdL w a fs c) (hG : GW w ad)
 (hl : szs fs ≤ 1099511627776) (hnb : nb ≤ 1099511627776) :
 Calls Tryz.prog 48 #[.agg #[.int .i64 st, .int .i64 mi, .slice af nf cf, .slice ab nb cb', .bool cl], .slice a fs.length c] w fun e w' => e = .returned (eoV ad (ckr st mi fs nb)) ∧ Up w w' := by
 have HF := Ho h
 have HW := Ho hG
 have hcap := h.cap
 have hsl := szs_len fs
 clear h hG
 have HA0 := Ho (at_new w 55 [.int .i64 st, .int .i64 mi, .slice af nf cf, .slice ab nb cb', .bool cl])
 have HU0 := Ho ((Up.refl w).alloc (.cells [.int .i64 st, .int .i64 mi, .slice af nf cf, .slice ab nb cb', .bool cl].toArray 55))
 obtain ⟨rv, hrv⟩ := ny (eoV ad (ckr st mi fs nb))
 rw [hrv]
 unfold ckr at hrv
 have HR := Ho hrv
 clear hrv
 obtain ⟨z, hz⟩ := ny (szs fs)
 have HSz := Ho (fun w (hF : FdL w a fs c) => sizeOf_walk a fs c w hF hl)
 have HCf := Ho (fun w (hF : FdL w a fs c) (hE : GE w ad) => checkFields_walk ad a fs c w hF hl hE)
 rw [hz] at HR hl hsl HSz
 clear hz
 go_enter Tryz.func48, Tryz.ntmps48
 go_wp2_with fail
 obtain ⟨w1, hw1⟩ := ny (w.alloc (.cells [.int .i64 st, .int .i64 mi, .slice af nf cf, .slice ab nb cb', .bool cl].toArray 55))
 rw [hw1] at HA0 HU0
 change Calls _ _ _ (w.alloc (.cells [.int .i64 st, .int .i64 mi, .slice af nf cf, .slice ab nb cb', .bool cl].toArray 55)) _
 rw [hw1]
 clear hw1
 refine (HSz.o w1 (HF.o.up HU0.o)).mono ?_
 rintro e w2 ⟨rfl, h9⟩
 have HU2 := Ho (HU0.o.trans h9)
 have HA2 := Ho (HA0.o.up h9)
 clear h9
 dsimp only
 by_cases h2 : 16384 < z
 · have h2z : (16384 : Int) < (z : Int) := by omega
   have HE := Ho (show rv = ev (ad 1) by rw [← HR.o, if_pos h2]; rfl)
   have hgl : w2.cell? ⟨2, 0, none⟩ = _ := (HW.o.up HU2.o).ge.gl 1 (by decide)
   go_wp2
   go_ret
   rw [HE.o]
   exact ⟨rfl, HU2.o⟩
 · have h2z : ¬ (16384 : Int) < (z : Int) := by omega
   rw [if_neg h2] at HR
   have c1 := HA2.o.cell (i := 1) rfl
   go_wp2_with fail
   refine (isMinor_walk mi w2).mono ?_
   rintro e w8 ⟨rfl, h9⟩
   obtain rfl := h9.symm
   clear h9
   dsimp only
   cases hmn : mnr mi with
   | false =>
    have HE := Ho (show rv = ev (ad 4) by rw [← HR.o, if_pos hmn]; rfl)
    have hgl : w2.cell? ⟨5, 0, none⟩ = _ := (HW.o.up HU2.o).ge.gl 4 (by decide)
    go_wp2
    go_ret
    rw [HE.o]
    exact ⟨rfl, HU2.o⟩
   | true =>
    rw [if_neg (by rw [hmn]; simp)] at HR
    clear hmn c1
    have c0 := HA2.o.cell (i := 0) rfl
    go_wp2_with fail
    refine (isStatus_walk st w2).mono ?_
    rintro e w8 ⟨rfl, h9⟩
    obtain rfl := h9.symm
    clear h9
    dsimp only
    cases hst : sto st with
    | false =>
     have HE := Ho (show rv = ev (ad 11) by rw [← HR.o, if_pos hst]; rfl)
     have hgl : w2.cell? ⟨9, 0, none⟩ = _ := (HW.o.up HU2.o).ge.gl 11 (by decide)
     go_wp2
     go_ret
     rw [HE.o]
     exact ⟨rfl, HU2.o⟩
    | true =>
     rw [if_neg (by rw [hst]; simp)] at HR
     clear hst c0
     go_wp2_with fail
     refine (HCf.o w2 (HF.o.up HU2.o) (HW.o.up HU2.o).ge).mono ?_
     rintro e w3 ⟨rfl, h9⟩
     have HU3 := Ho (HU2.o.trans h9)
     have HA3 := Ho (HA2.o.up h9)
     clear h9
     dsimp only
     cases hcf : ckf fs with
     | some k =>
      have HE := Ho (show rv = ev (ad k) by rw [← HR.o, hcf]; rfl)
      rw [show eoV ad (some k) = ev (ad k) from rfl]
      have hne := ev_neq ad k
      go_wp2
      go_ret
      rw [HE.o]
      exact ⟨rfl, HU3.o⟩
     | none =>
      rw [hcf] at HR
      dsimp only at HR
      rw [show eoV ad none = Value.nilIface from rfl]
      clear hcf
      have c3 := HA3.o.cell (i := 3) rfl
      have c0 := HA3.o.cell (i := 0) rfl
      by_cases hbl : 1048576 < nb
      · have hblz : (1048576 : Int) < (nb : Int) := by omega
        have HE := Ho (show rv = ev (ad 7) by rw [← HR.o, if_pos hbl]; rfl)
        have hgl : w3.cell? ⟨6, 0, none⟩ = _ := (HW.o.up HU3.o).ge.gl 7 (by decide)
        go_wp2
        go_ret
        rw [HE.o]
        exact ⟨rfl, HU3.o⟩
      · have hblz : ¬ (1048576 : Int) < (nb : Int) := by omega
        rw [if_neg hbl] at HR
        clear hbl
        by_cases hb0 : 0 < nb
        · have hb0z : (0 : Int) < (nb : Int) := by omega
          go_wp2_with fail
          refine (isBodiless_walk st w3).mono ?_
          rintro e w9 ⟨rfl, h9⟩
          obtain rfl := h9.symm
          clear h9
          dsimp only
          cases hbd : bdl st with
          | true =>
           have HE := Ho (show rv = ev (ad 7) by rw [← HR.o, if_pos ⟨hb0, hbd⟩]; rfl)
           have hgl : w3.cell? ⟨6, 0, none⟩ = _ := (HW.o.up HU3.o).ge.gl 7 (by decide)
           go_wp2
           go_ret
           rw [HE.o]
           exact ⟨rfl, HU3.o⟩
          | false =>
           have HE := Ho (show rv = .nilIface by rw [← HR.o, if_neg (fun h => by rw [hbd] at h; cases h.2)]; rfl)
           go_wp2
           go_ret
           rw [HE.o]
           exact ⟨rfl, HU3.o⟩
        · have hb0z : ¬ (0 : Int) < (nb : Int) := by omega
          have HE := Ho (show rv = .nilIface by rw [← HR.o, if_neg (fun h => hb0 h.1)]; rfl)
          go_wp2
          go_ret
          rw [HE.o]
          exact ⟨rfl, HU3.o⟩
end Go.Proofs.YtkaoalcffgnfeaaGreatDoor
namespace Go.Proofs.YtkaoalcffgnfeaaGreatDoor
open Go.RowKit Go.Shelf TextNum
set_option maxRecDepth 100000 in
set_option maxHeartbeats 4000000 in
theorem FormatResponse_walk (ad : Nat → Addr) (st mi : Int) (a : Option Addr) (fs : List FD) (c : Nat) (ab : Option Addr) (nb cb' : Nat) (bd : List UInt8) (cl : Bool) (w : World) (h : FdL w a fs c) (hb : Sb w (.slice ab nb cb') bd) (hG : GW w ad) (hRs : w.rangeAt 10 0 rsC)
 (hs0 : -9223372036854775808 ≤ st) (hs1 : st ≤ 9223372036854775807) (hm0 : -9223372036854775808 ≤ mi) (hm1 : mi ≤ 9223372036854775807) (hl : szs fs ≤ 1099511627000) (hnb : nb ≤ 1099511627776) :
 Calls Tryz.prog 16 #[.agg #[.int .i64 st, .int .i64 mi, .slice a fs.length c, .slice ab nb cb', .bool cl]] w fun e w' => FrR w w' e (raQ st mi fs bd) ∧ Up w w' := by
 have HF := Ho h
 have HW := Ho hG
 have HB := Ho hb
 have HRs := Ho hRs
 have hcap := h.cap
 obtain ⟨hbn, hbc, hbm⟩ := hb.len
 unfold maxLen at hbm
 have HBn := Ho hbn
 clear h hG hb hbn hRs
 have HVz0 : (⟨(vtx mi).toArray⟩ : ByteArray).size = (vtx mi).length := by simp [ByteArray.size]
 have HVx := Ho (show vs (vtx mi) = .string ⟨(vtx mi).toArray⟩ from rfl)
 have HVd0 : (⟨(vtx mi).toArray⟩ : ByteArray).data.toList = vtx mi := rfl
 generalize (⟨(vtx mi).toArray⟩ : ByteArray) = vt at HVx HVz0 HVd0
 have HVd := Ho HVd0
 obtain ⟨vl, hVn⟩ := ny ((vtx mi).length)
 rw [hVn] at HVz0
 have HVz := Ho HVz0
 have HVn := Ho hVn
 clear HVz0 HVd0 hVn
 have HSz0 : (⟨(Go.Lib.itoa st).toArray⟩ : ByteArray).size = (Go.Lib.itoa st).length := by simp [ByteArray.size]
 have HSx := Ho (show vs (Go.Lib.itoa st) = .string ⟨(Go.Lib.itoa st).toArray⟩ from rfl)
 have HSd0 : (⟨(Go.Lib.itoa st).toArray⟩ : ByteArray).data.toList = Go.Lib.itoa st := rfl
 generalize (⟨(Go.Lib.itoa st).toArray⟩ : ByteArray) = sx at HSx HSz0 HSd0
 have HSd := Ho HSd0
 obtain ⟨sl, hSn⟩ := ny ((Go.Lib.itoa st).length)
 rw [hSn] at HSz0
 have HSz := Ho HSz0
 have HSn := Ho hSn
 clear HSz0 HSd0 hSn
 have HRz0 : (⟨(rsn st).toArray⟩ : ByteArray).size = (rsn st).length := by simp [ByteArray.size]
 have HRx := Ho (show vs (rsn st) = .string ⟨(rsn st).toArray⟩ from rfl)
 have HRd0 : (⟨(rsn st).toArray⟩ : ByteArray).data.toList = rsn st := rfl
 generalize (⟨(rsn st).toArray⟩ : ByteArray) = rx at HRx HRz0 HRd0
 have HRd := Ho HRd0
 obtain ⟨rl, hRn⟩ := ny ((rsn st).length)
 rw [hRn] at HRz0
 have HRz := Ho HRz0
 have HRn := Ho hRn
 clear HRz0 HRd0 hRn
 have hsl := szs_len fs
 have hpl := pfs_len fs
 have HZf := Ho (szs_raF st fs nb hnb)
 have HA0 := Ho (at_new w 55 [.int .i64 st, .int .i64 mi, .slice a fs.length c, .slice ab nb cb', .bool cl])
 have HU0 := Ho ((Up.refl w).alloc (.cells [.int .i64 st, .int .i64 mi, .slice a fs.length c, .slice ab nb cb', .bool cl].toArray 55))
 obtain ⟨rv, hrv⟩ := ny (raQ st mi fs bd)
 have HR := Ho hrv
 rw [hrv]
 clear hrv
 go_enter Tryz.func16, Tryz.ntmps16
 go_wp2_with (with_reducible refine sL 34 ?_)
 show wpList _ _ _ _ _ _
 obtain ⟨w1, hw1⟩ := ny (w.alloc (.cells [.int .i64 st, .int .i64 mi, .slice a fs.length c, .slice ab nb cb', .bool cl].toArray 55))
 have HS1 := Ho (show w.heap.size < w1.heap.size by rw [← hw1, alloc_size]; omega)
 rw [hw1] at HA0 HU0
 change wpList _ _ _ _ _ (w.alloc (.cells [.int .i64 st, .int .i64 mi, .slice a fs.length c, .slice ab nb cb', .bool cl].toArray 55))
 rw [hw1]
 clear hw1
 have c3 := HA0.o.cell (i := 2) rfl
 go_wp2_with fail
 refine (printedFields_walk a fs c w1 (HF.o.up HU0.o) (by omega) (HW.o.up HU0.o).kd).mono ?_
 rintro e w2 ⟨⟨a2, c2, rfl, hO2⟩, h9⟩
 have HU2 := Ho (HU0.o.trans h9)
 have HA2 := Ho (HA0.o.up h9)
 have HO2 := Ho hO2.o
 have HW1 := Ho h9
 clear h9 hO2 c3
 dsimp only
 have c0 := HA2.o.cell (i := 0) rfl
 go_wp2_with fail
 refine (isBodiless_walk st w2).mono ?_
 rintro e w3 ⟨rfl, h9⟩
 obtain rfl := h9.symm
 clear h9 c0
 dsimp only
 cases hb0 : bdl st with
 | false =>
  have HFr0 : raF st fs nb = pfs fs ++ [lnf nb] := by unfold raF; rw [if_neg (by rw [hb0]; simp)]
  clear hb0
  have c4 := HA2.o.cell (i := 3) rfl
  obtain ⟨np, hnp⟩ := ny ((pfs fs).length)
  have HNp := Ho hnp
  rw [hnp] at hpl ⊢
  clear hnp
  go_wp2_with fail
  refine (lengthOf_walk ab nb cb' hnb w2 (HW.o.up HU2.o).gn).mono ?_
  rintro e w3 ⟨rfl, h9⟩
  have HU3 := Ho (HU2.o.trans h9)
  have HA3 := Ho (HA2.o.up h9)
  have Hu3 := Ho h9
  clear h9
  dsimp only
  go_wp2_with (with_reducible refine sA ?_)
  show wpList _ _ _ _ _ _
  refine wpList_appFd (w := w3) (N := w1.heap.size) rfl _ _ rfl a2 c2 (pfs fs) (lnf nb) HNp.o rfl rfl (ow_up HO2.o Hu3.o) (Nat.le_trans HW1.o.size Hu3.o.size) (by omega) ?_
  intro a4 c4' w4 o4 u4 g4
  have HA4 := Ho (HA3.o.by g4 (fun e => by
   have h1 := ow_up HO2.o Hu3.o
   unfold FdO at h1
   rw [HNp.o] at h1
   have h2 := (World.ownsRow.lt h1 w.heap.size e).1
   have h3 := HS1.o
   omega))
  have hu4 := u4 w1 (HW1.o.trans Hu3.o) (Nat.le_refl _)
  have HU4 := Ho (HU0.o.trans hu4)
  have hZ := HZf.o
  rw [HFr0] at hZ
  have HFr := Ho HFr0
  have HNF0 : (pfs fs ++ [lnf nb]).length = np + 1 := by rw [List.length_append, HNp.o]; rfl
  have HF4 := Ho o4.fdl
  clear o4 u4 g4 hu4 HFr0 c4
  generalize pfs fs ++ [lnf nb] = F at HF4 HFr HNF0 hZ
  rw [← HNF0]
  clear HNF0
  have hFz : szs F ≤ 1099511627776 := by omega
  clear hZ
  simp only [Act.put, pB, pC, pD]
  obtain ⟨nF, hnF⟩ := ny F.length
  have HNF := Ho hnF
  have hnFc := HF4.o.cap
  have HCk := Ho (checkResponse_walk ad st mi a fs.length c ab nb cb' cl a4 F c4' w4 HF4.o (HW.o.up HU4.o) hFz hnb)
  have HPm := Ho (fun (st : ByteArray) (w7 : World) (h1 : FdL w7 a4 F c4') (h2 : Sb w7 (.slice ab nb cb') bd) h3 h4 h5 => printMessage_walk st a4 F c4' ab nb cb' bd w7 h1 h2 h3 h4 h5)
  rw [hnF] at HCk HPm hnFc ⊢
  clear hnF
  go_wp2_with (with_reducible refine sL 55 ?_)
  show wpList _ _ _ _ _ _
  refine wpList_load_mid rfl _ _ rfl w.heap.size 0 rfl [.int .i64 st, .int .i64 mi, .slice a fs.length c, .slice ab nb cb', .bool cl] _ HA4.o.range Tryz.underlying55 rfl (by kernel_rfl) ?_
  simp only [Act.put, pB, pC, pD]
  go_wp2_with fail
  refine HCk.o.mono ?_
  rintro e w6 ⟨rfl, h9⟩
  have HU6 := Ho (HU4.o.trans h9)
  have HA6 := Ho (HA4.o.up h9)
  have HF6 := Ho (HF4.o.up h9)
  clear h9
  dsimp only
  cases hck : ckr st mi F nb with
  | some k =>
   have HE := Ho (show rv = .error k by rw [← HR.o]; unfold raQ; rw [← HBn.o, HFr.o, hck])
   have hk := ckr_lt hck
   rw [show eoV ad (some k) = ev (ad k) from rfl]
   have hne := ev_neq ad k
   clear hck
   go_wp2_with fail
   refine (numberOf_err ad k hk w6 (HW.o.up HU6.o).ge).mono ?_
   rintro e w7 ⟨rfl, h9⟩
   have HU7 := Ho (HU6.o.trans h9)
   clear h9
   dsimp only
   go_wp2
   go_ret2
   rw [HE.o]
   exact ⟨rfl, HU7.o⟩
  | none =>
   have HE := Ho (show rv = .ok (prt (raS st mi) F bd) by rw [← HR.o]; unfold raQ; rw [← HBn.o, HFr.o, hck])
   obtain ⟨hq1, hq2, hq3, hq4, hq5, hq6⟩ := ckr_ok hck
   rw [show eoV ad none = Value.nilIface from rfl]
   have HSt := Ho (show (vt ++ (⟨#[32]⟩ : ByteArray) ++ sx ++ (⟨#[32]⟩ : ByteArray) ++ rx).data.toList = raS st mi by rw [bat_app, bat_app, bat_app, bat_app]; unfold raS; rw [HVd.o, HSd.o, HRd.o])
   have hsz4 : (vt ++ (⟨#[32]⟩ : ByteArray) ++ sx ++ (⟨#[32]⟩ : ByteArray) ++ rx).size ≤ 1048576 := by
    rw [Go.Lib.size_eq, HSt.o]
    exact Nat.le_trans (raS_no hq3 hq2).2 (by decide)
   have hsm : vl ≤ 100 ∧ sl ≤ 100 ∧ rl ≤ 100 := by
    have h1 := (raS_no hq3 hq2).2
    have h2 := HVn.o
    have h3 := HSn.o
    have h4 := HRn.o
    unfold raS at h1
    simp only [List.length_append, List.length_cons, List.length_nil] at h1
    omega
   obtain ⟨hvl, hsl2, hrl⟩ := hsm
   have HPm := Ho (fun w7 h1 h2 => HPm.o (vt ++ (⟨#[32]⟩ : ByteArray) ++ sx ++ (⟨#[32]⟩ : ByteArray) ++ rx) w7 h1 h2 hsz4 (by omega) (by rw [← HBn.o]; exact hq5))
   rw [HSt.o] at HPm
   clear hsz4 HSt
   obtain ⟨L, hL⟩ := ny ((prt (raS st mi) F bd).length)
   have HL := Ho hL
   rw [hL] at HPm
   clear hL hck
   have hl1 : ¬ 9223372036854775807 < vl + 1 := by omega
   have hl2 : ¬ 9223372036854775807 < vl + 1 + sl := by omega
   have hl3 : ¬ 9223372036854775807 < vl + 1 + sl + 1 := by omega
   have hl4 : ¬ 9223372036854775807 < vl + 1 + sl + 1 + rl := by omega
   go_wp2
   have HUd := Ho HU6.o.drew
   have HAd := Ho (HA6.o.up (Up.refl _).drew)
   have HFd := Ho (HF6.o.up (Up.refl _).drew)
   refine wp_region_held_drew (S := fun w2 => At w2 w.heap.size 55 [.int .i64 st, .int .i64 mi, .slice a fs.length c, .slice ab nb cb', .bool cl] ∧ GW w2 ad ∧ Up w w2) (by kernel_rfl) ⟨HAd.o, HW.o.up HUd.o, HUd.o⟩ (fun hS => ?_)
   refine tN 0 (some 26) (.fieldAddr 55 (.tmp 1) 1) 0 (.pointer (some ⟨w.heap.size, 1, none⟩)) hS ?_
   simp only [pA, pB, pC, pD]
   refine tK 1 (some 27) (.load 3 (.tmp 26)) 3 (.int .i64 mi) hS ?_ ?_
   · intro _ _ w5 hSw
     have h0 := hSw.1.cell (i := 1) rfl
     clear hSw hS
     go_simp
   simp only [pA, pB, pC, pD]
   refine tN 4 (some 30) (.fieldAddr 55 (.tmp 1) 0) 0 (.pointer (some ⟨w.heap.size, 0, none⟩)) hS ?_
   simp only [pA, pB, pC, pD]
   refine tK 5 (some 31) (.load 3 (.tmp 30)) 3 (.int .i64 st) hS ?_ ?_
   · intro _ _ w5 hSw
     have h0 := hSw.1.cell (i := 0) rfl
     clear hSw hS
     go_simp
   simp only [pA, pB, pC, pD]
   refine tN 9 (some 35) (.fieldAddr 55 (.tmp 1) 0) 0 (.pointer (some ⟨w.heap.size, 0, none⟩)) hS ?_
   simp only [pA, pB, pC, pD]
   refine tK 10 (some 36) (.load 3 (.tmp 35)) 3 (.int .i64 st) hS ?_ ?_
   · intro _ _ w5 hSw
     have h0 := hSw.1.cell (i := 0) rfl
     clear hSw hS
     go_simp
   simp only [pA, pB, pC, pD]
   refine tN 13 (some 39) (.move (.tmp 4)) 34 (.slice a4 nF c4') hS ?_
   simp only [pA, pB, pC, pD]
   refine tN 14 (some 40) (.fieldAddr 55 (.tmp 1) 3) 0 (.pointer (some ⟨w.heap.size, 3, none⟩)) hS ?_
   simp only [pA, pB, pC, pD]
   refine tK 15 (some 41) (.load 23 (.tmp 40)) 23 (.slice ab nb cb') hS ?_ ?_
   · intro _ _ w5 hSw
     have h0 := hSw.1.cell (i := 3) rfl
     clear hSw hS
     go_simp
   simp only [pA, pB, pC, pD]
   refine rD 2 (some 28) (.call ⟨.value (.func 44), #[.tmp 27], #[3]⟩) 9 fun _ _ K hK => ?_
   rw [if_pos (by kernel_rfl)]
   go_simp
   refine (versionText_walk mi hm0 hm1 w6.drew (HW.o.up HUd.o).gn).mono ?_
   rintro e w7 ⟨rfl, h9⟩
   have HU7 := Ho (HUd.o.trans h9)
   have HA7 := Ho (HAd.o.up h9)
   have HF7 := Ho (HFd.o.up h9)
   clear h9 hS
   rw [HVx.o]
   dsimp only
   refine hK.out _ _ ⟨HA7.o, HW.o.up HU7.o, HU7.o⟩ (fun hS => ?_)
   clear hK K
   refine tK 3 (some 29) (.binOp .add 9 (.tmp 28) (.const (.string { data := #[32] })) 9) 9 (.string (vt ++ (⟨#[32]⟩ : ByteArray))) hS ?_ ?_
   · intro _ _ w5 hSw
     clear hSw hS
     have hvz := HVz.o
     have hsz := HSz.o
     have hrz := HRz.o
     go_simp
   simp only [Act.put, pB, pC, pD]
   refine rD 6 (some 32) (.call ⟨.value (.func 49), #[.tmp 31], #[3]⟩) 9 fun _ _ K hK => ?_
   rw [if_pos (by kernel_rfl)]
   go_simp
   refine (statusText_walk st hs0 hs1 w7 (HW.o.up HU7.o).gn).mono ?_
   rintro e w8 ⟨rfl, h9⟩
   have HU8 := Ho (HU7.o.trans h9)
   have HA8 := Ho (HA7.o.up h9)
   have HF8 := Ho (HF7.o.up h9)
   clear h9 hS
   rw [HSx.o]
   dsimp only
   refine hK.out _ _ ⟨HA8.o, HW.o.up HU8.o, HU8.o⟩ (fun hS => ?_)
   clear hK K
   refine tK 7 (some 33) (.binOp .add 9 (.tmp 29) (.tmp 32) 9) 9 (.string (vt ++ (⟨#[32]⟩ : ByteArray) ++ sx)) hS ?_ ?_
   · intro _ _ w5 hSw
     clear hSw hS
     have hvz := HVz.o
     have hsz := HSz.o
     have hrz := HRz.o
     go_simp
   simp only [Act.put, pB, pC, pD]
   refine tK 8 (some 34) (.binOp .add 9 (.tmp 33) (.const (.string { data := #[32] })) 9) 9 (.string (vt ++ (⟨#[32]⟩ : ByteArray) ++ sx ++ (⟨#[32]⟩ : ByteArray))) hS ?_ ?_
   · intro _ _ w5 hSw
     clear hSw hS
     have hvz := HVz.o
     have hsz := HSz.o
     have hrz := HRz.o
     go_simp
   simp only [pA, pB, pC, pD]
   refine rD 11 (some 37) (.call ⟨.value (.func 50), #[.tmp 36], #[3]⟩) 9 fun _ _ K hK => ?_
   rw [if_pos (by kernel_rfl)]
   go_simp
   refine (Reason_walk st hs0 hs1 w8 (HW.o.up HU8.o).gn (range_up HRs.o HU8.o)).mono ?_
   rintro e w9 ⟨rfl, h9⟩
   have HU9 := Ho (HU8.o.trans h9)
   have HA9 := Ho (HA8.o.up h9)
   have HF9 := Ho (HF8.o.up h9)
   clear h9 hS
   rw [HRx.o]
   dsimp only
   refine hK.out _ _ ⟨HA9.o, HW.o.up HU9.o, HU9.o⟩ (fun hS => ?_)
   clear hK K
   refine tK 12 (some 38) (.binOp .add 9 (.tmp 34) (.tmp 37) 9) 9 (.string (vt ++ (⟨#[32]⟩ : ByteArray) ++ sx ++ (⟨#[32]⟩ : ByteArray) ++ rx)) hS ?_ ?_
   · intro _ _ w5 hSw
     clear hSw hS
     have hvz := HVz.o
     have hsz := HSz.o
     have hrz := HRz.o
     go_simp
   simp only [Act.put, pB, pC, pD]
   refine rD 16 (some 42) (.call ⟨.value (.func 43), #[.tmp 38, .tmp 39, .tmp 41], #[9, 34, 23]⟩) 23 fun _ _ K hK => ?_
   rw [if_pos (by kernel_rfl)]
   go_simp
   refine (HPm.o w9 HF9.o (HB.o.up HU9.o)).mono ?_
   rintro e w10 ⟨⟨a8, c8, rfl, hO8⟩, h9⟩
   have HU10 := Ho (HU9.o.trans h9)
   have HA10 := Ho (HA9.o.up h9)
   have HO8 := Ho (show Ow w10 w.heap.size _ _ from ow_base hO8.o HU9.o.size)
   clear h9 hS hO8
   dsimp only
   refine hK.out _ _ ⟨HA10.o, HW.o.up HU10.o, HU10.o⟩ (fun hS => ?_)
   clear hK K
   refine tN 17 (some 2) (.assign (.tmp 42)) 23 (.slice a8 L c8) hS ?_
   simp only [Act.put, pB, pC, pD]
   refine tN 18 (some 3) (.assign (.const (.int .i64 0))) 37 (.int .i64 0) hS ?_
   simp only [pA, pB, pC, pD]
   clear hS
   refine wpAnyH_done (by kernel_rfl) ?_ _
   go_wp2
   go_ret2
   rw [HE.o]
   exact ⟨⟨a8, c8, by rw [HL.o]; rfl, Ho (by rw [HL.o]; exact HO8.o)⟩, HU10.o⟩
 | true =>
  have HFr := Ho (show raF st fs nb = pfs fs by unfold raF; rw [if_pos hb0])
  clear hb0
  have HF4 := Ho HO2.o.fdl
  have hZ := HZf.o
  rw [HFr.o] at hZ
  generalize pfs fs = F at HF4 HFr hZ ⊢
  have hFz : szs F ≤ 1099511627776 := by omega
  clear hZ
  obtain ⟨nF, hnF⟩ := ny F.length
  have HNF := Ho hnF
  have hnFc := HF4.o.cap
  have HCk := Ho (checkResponse_walk ad st mi a fs.length c ab nb cb' cl a2 F c2 w2 HF4.o (HW.o.up HU2.o) hFz hnb)
  have HPm := Ho (fun (st : ByteArray) (w7 : World) (h1 : FdL w7 a2 F c2) (h2 : Sb w7 (.slice ab nb cb') bd) h3 h4 h5 => printMessage_walk st a2 F c2 ab nb cb' bd w7 h1 h2 h3 h4 h5)
  rw [hnF] at HCk HPm hnFc ⊢
  clear hnF
  go_wp2_with (with_reducible refine sL 55 ?_)
  show wpList _ _ _ _ _ _
  refine wpList_load_mid rfl _ _ rfl w.heap.size 0 rfl [.int .i64 st, .int .i64 mi, .slice a fs.length c, .slice ab nb cb', .bool cl] _ HA2.o.range Tryz.underlying55 rfl (by kernel_rfl) ?_
  simp only [Act.put, pB, pC, pD]
  go_wp2_with fail
  refine HCk.o.mono ?_
  rintro e w6 ⟨rfl, h9⟩
  have HU6 := Ho (HU2.o.trans h9)
  have HA6 := Ho (HA2.o.up h9)
  have HF6 := Ho (HF4.o.up h9)
  clear h9
  dsimp only
  cases hck : ckr st mi F nb with
  | some k =>
   have HE := Ho (show rv = .error k by rw [← HR.o]; unfold raQ; rw [← HBn.o, HFr.o, hck])
   have hk := ckr_lt hck
   rw [show eoV ad (some k) = ev (ad k) from rfl]
   have hne := ev_neq ad k
   clear hck
   go_wp2_with fail
   refine (numberOf_err ad k hk w6 (HW.o.up HU6.o).ge).mono ?_
   rintro e w7 ⟨rfl, h9⟩
   have HU7 := Ho (HU6.o.trans h9)
   clear h9
   dsimp only
   go_wp2
   go_ret2
   rw [HE.o]
   exact ⟨rfl, HU7.o⟩
  | none =>
   have HE := Ho (show rv = .ok (prt (raS st mi) F bd) by rw [← HR.o]; unfold raQ; rw [← HBn.o, HFr.o, hck])
   obtain ⟨hq1, hq2, hq3, hq4, hq5, hq6⟩ := ckr_ok hck
   rw [show eoV ad none = Value.nilIface from rfl]
   have HSt := Ho (show (vt ++ (⟨#[32]⟩ : ByteArray) ++ sx ++ (⟨#[32]⟩ : ByteArray) ++ rx).data.toList = raS st mi by rw [bat_app, bat_app, bat_app, bat_app]; unfold raS; rw [HVd.o, HSd.o, HRd.o])
   have hsz4 : (vt ++ (⟨#[32]⟩ : ByteArray) ++ sx ++ (⟨#[32]⟩ : ByteArray) ++ rx).size ≤ 1048576 := by
    rw [Go.Lib.size_eq, HSt.o]
    exact Nat.le_trans (raS_no hq3 hq2).2 (by decide)
   have hsm : vl ≤ 100 ∧ sl ≤ 100 ∧ rl ≤ 100 := by
    have h1 := (raS_no hq3 hq2).2
    have h2 := HVn.o
    have h3 := HSn.o
    have h4 := HRn.o
    unfold raS at h1
    simp only [List.length_append, List.length_cons, List.length_nil] at h1
    omega
   obtain ⟨hvl, hsl2, hrl⟩ := hsm
   have HPm := Ho (fun w7 h1 h2 => HPm.o (vt ++ (⟨#[32]⟩ : ByteArray) ++ sx ++ (⟨#[32]⟩ : ByteArray) ++ rx) w7 h1 h2 hsz4 (by omega) (by rw [← HBn.o]; exact hq5))
   rw [HSt.o] at HPm
   clear hsz4 HSt
   obtain ⟨L, hL⟩ := ny ((prt (raS st mi) F bd).length)
   have HL := Ho hL
   rw [hL] at HPm
   clear hL hck
   have hl1 : ¬ 9223372036854775807 < vl + 1 := by omega
   have hl2 : ¬ 9223372036854775807 < vl + 1 + sl := by omega
   have hl3 : ¬ 9223372036854775807 < vl + 1 + sl + 1 := by omega
   have hl4 : ¬ 9223372036854775807 < vl + 1 + sl + 1 + rl := by omega
   go_wp2
   have HUd := Ho HU6.o.drew
   have HAd := Ho (HA6.o.up (Up.refl _).drew)
   have HFd := Ho (HF6.o.up (Up.refl _).drew)
   refine wp_region_held_drew (S := fun w2 => At w2 w.heap.size 55 [.int .i64 st, .int .i64 mi, .slice a fs.length c, .slice ab nb cb', .bool cl] ∧ GW w2 ad ∧ Up w w2) (by kernel_rfl) ⟨HAd.o, HW.o.up HUd.o, HUd.o⟩ (fun hS => ?_)
   refine tN 0 (some 26) (.fieldAddr 55 (.tmp 1) 1) 0 (.pointer (some ⟨w.heap.size, 1, none⟩)) hS ?_
   simp only [pA, pB, pC, pD]
   refine tK 1 (some 27) (.load 3 (.tmp 26)) 3 (.int .i64 mi) hS ?_ ?_
   · intro _ _ w5 hSw
     have h0 := hSw.1.cell (i := 1) rfl
     clear hSw hS
     go_simp
   simp only [pA, pB, pC, pD]
   refine tN 4 (some 30) (.fieldAddr 55 (.tmp 1) 0) 0 (.pointer (some ⟨w.heap.size, 0, none⟩)) hS ?_
   simp only [pA, pB, pC, pD]
   refine tK 5 (some 31) (.load 3 (.tmp 30)) 3 (.int .i64 st) hS ?_ ?_
   · intro _ _ w5 hSw
     have h0 := hSw.1.cell (i := 0) rfl
     clear hSw hS
     go_simp
   simp only [pA, pB, pC, pD]
   refine tN 9 (some 35) (.fieldAddr 55 (.tmp 1) 0) 0 (.pointer (some ⟨w.heap.size, 0, none⟩)) hS ?_
   simp only [pA, pB, pC, pD]
   refine tK 10 (some 36) (.load 3 (.tmp 35)) 3 (.int .i64 st) hS ?_ ?_
   · intro _ _ w5 hSw
     have h0 := hSw.1.cell (i := 0) rfl
     clear hSw hS
     go_simp
   simp only [pA, pB, pC, pD]
   refine tN 13 (some 39) (.move (.tmp 4)) 34 (.slice a2 nF c2) hS ?_
   simp only [pA, pB, pC, pD]
   refine tN 14 (some 40) (.fieldAddr 55 (.tmp 1) 3) 0 (.pointer (some ⟨w.heap.size, 3, none⟩)) hS ?_
   simp only [pA, pB, pC, pD]
   refine tK 15 (some 41) (.load 23 (.tmp 40)) 23 (.slice ab nb cb') hS ?_ ?_
   · intro _ _ w5 hSw
     have h0 := hSw.1.cell (i := 3) rfl
     clear hSw hS
     go_simp
   simp only [pA, pB, pC, pD]
   refine rD 2 (some 28) (.call ⟨.value (.func 44), #[.tmp 27], #[3]⟩) 9 fun _ _ K hK => ?_
   rw [if_pos (by kernel_rfl)]
   go_simp
   refine (versionText_walk mi hm0 hm1 w6.drew (HW.o.up HUd.o).gn).mono ?_
   rintro e w7 ⟨rfl, h9⟩
   have HU7 := Ho (HUd.o.trans h9)
   have HA7 := Ho (HAd.o.up h9)
   have HF7 := Ho (HFd.o.up h9)
   clear h9 hS
   rw [HVx.o]
   dsimp only
   refine hK.out _ _ ⟨HA7.o, HW.o.up HU7.o, HU7.o⟩ (fun hS => ?_)
   clear hK K
   refine tK 3 (some 29) (.binOp .add 9 (.tmp 28) (.const (.string { data := #[32] })) 9) 9 (.string (vt ++ (⟨#[32]⟩ : ByteArray))) hS ?_ ?_
   · intro _ _ w5 hSw
     clear hSw hS
     have hvz := HVz.o
     have hsz := HSz.o
     have hrz := HRz.o
     go_simp
   simp only [Act.put, pB, pC, pD]
   refine rD 6 (some 32) (.call ⟨.value (.func 49), #[.tmp 31], #[3]⟩) 9 fun _ _ K hK => ?_
   rw [if_pos (by kernel_rfl)]
   go_simp
   refine (statusText_walk st hs0 hs1 w7 (HW.o.up HU7.o).gn).mono ?_
   rintro e w8 ⟨rfl, h9⟩
   have HU8 := Ho (HU7.o.trans h9)
   have HA8 := Ho (HA7.o.up h9)
   have HF8 := Ho (HF7.o.up h9)
   clear h9 hS
   rw [HSx.o]
   dsimp only
   refine hK.out _ _ ⟨HA8.o, HW.o.up HU8.o, HU8.o⟩ (fun hS => ?_)
   clear hK K
   refine tK 7 (some 33) (.binOp .add 9 (.tmp 29) (.tmp 32) 9) 9 (.string (vt ++ (⟨#[32]⟩ : ByteArray) ++ sx)) hS ?_ ?_
   · intro _ _ w5 hSw
     clear hSw hS
     have hvz := HVz.o
     have hsz := HSz.o
     have hrz := HRz.o
     go_simp
   simp only [Act.put, pB, pC, pD]
   refine tK 8 (some 34) (.binOp .add 9 (.tmp 33) (.const (.string { data := #[32] })) 9) 9 (.string (vt ++ (⟨#[32]⟩ : ByteArray) ++ sx ++ (⟨#[32]⟩ : ByteArray))) hS ?_ ?_
   · intro _ _ w5 hSw
     clear hSw hS
     have hvz := HVz.o
     have hsz := HSz.o
     have hrz := HRz.o
     go_simp
   simp only [pA, pB, pC, pD]
   refine rD 11 (some 37) (.call ⟨.value (.func 50), #[.tmp 36], #[3]⟩) 9 fun _ _ K hK => ?_
   rw [if_pos (by kernel_rfl)]
   go_simp
   refine (Reason_walk st hs0 hs1 w8 (HW.o.up HU8.o).gn (range_up HRs.o HU8.o)).mono ?_
   rintro e w9 ⟨rfl, h9⟩
   have HU9 := Ho (HU8.o.trans h9)
   have HA9 := Ho (HA8.o.up h9)
   have HF9 := Ho (HF8.o.up h9)
   clear h9 hS
   rw [HRx.o]
   dsimp only
   refine hK.out _ _ ⟨HA9.o, HW.o.up HU9.o, HU9.o⟩ (fun hS => ?_)
   clear hK K
   refine tK 12 (some 38) (.binOp .add 9 (.tmp 34) (.tmp 37) 9) 9 (.string (vt ++ (⟨#[32]⟩ : ByteArray) ++ sx ++ (⟨#[32]⟩ : ByteArray) ++ rx)) hS ?_ ?_
   · intro _ _ w5 hSw
     clear hSw hS
     have hvz := HVz.o
     have hsz := HSz.o
     have hrz := HRz.o
     go_simp
   simp only [Act.put, pB, pC, pD]
   refine rD 16 (some 42) (.call ⟨.value (.func 43), #[.tmp 38, .tmp 39, .tmp 41], #[9, 34, 23]⟩) 23 fun _ _ K hK => ?_
   rw [if_pos (by kernel_rfl)]
   go_simp
   refine (HPm.o w9 HF9.o (HB.o.up HU9.o)).mono ?_
   rintro e w10 ⟨⟨a8, c8, rfl, hO8⟩, h9⟩
   have HU10 := Ho (HU9.o.trans h9)
   have HA10 := Ho (HA9.o.up h9)
   have HO8 := Ho (show Ow w10 w.heap.size _ _ from ow_base hO8.o HU9.o.size)
   clear h9 hS hO8
   dsimp only
   refine hK.out _ _ ⟨HA10.o, HW.o.up HU10.o, HU10.o⟩ (fun hS => ?_)
   clear hK K
   refine tN 17 (some 2) (.assign (.tmp 42)) 23 (.slice a8 L c8) hS ?_
   simp only [Act.put, pB, pC, pD]
   refine tN 18 (some 3) (.assign (.const (.int .i64 0))) 37 (.int .i64 0) hS ?_
   simp only [pA, pB, pC, pD]
   clear hS
   refine wpAnyH_done (by kernel_rfl) ?_ _
   go_wp2
   go_ret2
   rw [HE.o]
   exact ⟨⟨a8, c8, by rw [HL.o]; rfl, Ho (by rw [HL.o]; exact HO8.o)⟩, HU10.o⟩
end Go.Proofs.YtkaoalcffgnfeaaGreatDoor
namespace Go.Proofs.YtkaoalcffgnfeaaGreatDoor
open Go.RowKit Go.Shelf TextNum
set_option maxRecDepth 100000 in
theorem Rbare_walk (z : Int) (w : World) : Calls Tryz.prog 45 #[.int .i64 z] w fun e w' => e = .returned (.bool (bdl z)) ∧ w' = w := by
 obtain ⟨rv, hrv⟩ := ny (bdl z)
 have HR := Ho hrv
 rw [hrv]
 clear hrv
 unfold bdl at HR
 by_cases h0 : 100 ≤ z ∧ z ≤ 199
 · have h1 := h0.1
   have h2 := h0.2
   have h3 : z < 200 := by omega
   have HE := Ho (show rv = true by rw [← HR.o, decide_eq_true h1, decide_eq_true h2]; rfl)
   clear h0
   go_enter Tryz.func45, Tryz.ntmps45
   go_wp2
   go_ret
   rw [HE.o]
   exact ⟨rfl, rfl⟩
 · have hd : (decide (100 ≤ z) && decide (z ≤ 199)) = false := by
    rw [Bool.and_eq_false_iff, decide_eq_false_iff_not, decide_eq_false_iff_not]; omega
   have HR2 := Ho (show rv = ((z == 204) || (z == 304)) by rw [← HR.o, hd]; rfl)
   clear HR hd
   cases h4 : (z == 204) with
   | true =>
    rw [h4] at HR2
    have HE := Ho (show rv = true from HR2.o)
    have hz : z = 204 := by simpa using h4
    subst hz
    clear h0
    go_enter Tryz.func45, Tryz.ntmps45
    go_wp2
    go_ret
    rw [HE.o]
    exact ⟨rfl, rfl⟩
   | false =>
    rw [h4] at HR2
    have HE := Ho (show rv = (z == 304) by rw [HR2.o]; rfl)
    by_cases h1 : 100 ≤ z
    · have h2 : ¬ z < 200 := by omega
      clear h0
      go_enter Tryz.func45, Tryz.ntmps45
      go_wp2
      go_ret
      rw [HE.o]
      exact ⟨rfl, rfl⟩
    · clear h0
      go_enter Tryz.func45, Tryz.ntmps45
      go_wp2
      go_ret
      rw [HE.o]
      exact ⟨rfl, rfl⟩
theorem rsn_len (st : Int) (h0 : -9223372036854775808 ≤ st) (h1 : st ≤ 9223372036854775807) : (rsn st).length ≤ 64 := by
 have hT : ∀ p ∈ rsT, p.2.data.toList.length ≤ 64 := by decide +kernel
 have hi := itoa_len st h0 h1
 unfold rsn
 split
 · rename_i p hp
   exact hT p (List.mem_of_find?_eq_some hp)
 · rw [List.length_append]
   simp only [List.length_cons, List.length_nil]
   omega
set_option maxRecDepth 100000 in
set_option maxHeartbeats 8000000 in
theorem RFormatResponse_walk (st mi : Int) (a : Option Addr) (fs : List FD) (c : Nat) (ab : Option Addr) (nb cb' : Nat) (bd : List UInt8) (cl : Bool) (w : World) (h : FdL w a fs c) (hb : Sb w (.slice ab nb cb') bd) (hRi : w.rangeAt 7 0 rsI) (hRs : w.rangeAt 8 0 rsS)
 (hs0 : -9223372036854775808 ≤ st) (hs1 : st ≤ 9223372036854775807) (hm0 : -9223372036854775808 ≤ mi) (hm1 : mi ≤ 9223372036854775807) (hl : szs fs ≤ 1099511627000) (hnb : nb ≤ 1099511627776) :
 Calls Tryz.prog 14 #[.agg #[.int .i64 st, .int .i64 mi, .slice a fs.length c, .slice ab nb cb', .bool cl]] w fun e w' => RfrR w' e (raQ st mi fs bd) ∧ Up w w' := by
 have HF := Ho h
 have HB := Ho hb
 have hcap := h.cap
 obtain ⟨hbn, hbc, hbm⟩ := hb.len
 unfold maxLen at hbm
 have HBn := Ho hbn
 clear h hb
 obtain ⟨rv, hrv⟩ := ny (raQ st mi fs bd)
 have HZf := szs_raF st fs nb hnb
 have hsl := szs_len fs
 obtain ⟨F, hF⟩ := ny (raF st fs nb)
 rw [hF] at HZf
 have HFr := Ho hF
 obtain ⟨ck, hck⟩ := ny (ckr st mi F nb)
 have HRv := Ho (show rv = erM (prt (raS st mi) F bd) ck by
  rw [← hrv, ← hck]
  unfold raQ erM
  rw [← hbn, hF]
  rfl)
 rw [hrv]
 clear hrv hF hbn
 unfold ckr at hck
 have HC := Ho hck
 clear hck
 have hil := itoa_len mi hm0 hm1
 have hsl2 := itoa_len st hs0 hs1
 have hrl : (rsn st).length ≤ 64 := rsn_len st hs0 hs1
 have HVz0 : (⟨(Go.Lib.itoa mi).toArray⟩ : ByteArray).size = (Go.Lib.itoa mi).length := by simp [ByteArray.size]
 have HVx : vs (Go.Lib.itoa mi) = .string ⟨(Go.Lib.itoa mi).toArray⟩ := rfl
 have HVd0 : (⟨(Go.Lib.itoa mi).toArray⟩ : ByteArray).data.toList = Go.Lib.itoa mi := rfl
 generalize (⟨(Go.Lib.itoa mi).toArray⟩ : ByteArray) = vt at HVx HVz0 HVd0
 have HSz0 : (⟨(Go.Lib.itoa st).toArray⟩ : ByteArray).size = (Go.Lib.itoa st).length := by simp [ByteArray.size]
 have HSx : vs (Go.Lib.itoa st) = .string ⟨(Go.Lib.itoa st).toArray⟩ := rfl
 have HSd0 : (⟨(Go.Lib.itoa st).toArray⟩ : ByteArray).data.toList = Go.Lib.itoa st := rfl
 generalize (⟨(Go.Lib.itoa st).toArray⟩ : ByteArray) = sx at HSx HSz0 HSd0
 have HRz0 : (⟨(rsn st).toArray⟩ : ByteArray).size = (rsn st).length := by simp [ByteArray.size]
 have HRx : vs (rsn st) = .string ⟨(rsn st).toArray⟩ := rfl
 have HRd0 : (⟨(rsn st).toArray⟩ : ByteArray).data.toList = rsn st := rfl
 generalize (⟨(rsn st).toArray⟩ : ByteArray) = rx at HRx HRz0 HRd0
 have HFm := Ho (fun w' => RFormatNumber_walk mi hm0 hm1 w')
 have HFs := Ho (fun w' => RFormatNumber_walk st hs0 hs1 w')
 have HRr := Ho (fun w' (h : Up w w') => RReason_walk st hs0 hs1 w' (range_up hRi h) (range_up hRs h))
 rw [HVx] at HFm
 rw [HSx] at HFs
 rw [HRx] at HRr
 have HSd := Ho (show ((⟨#[72, 84, 84, 80, 47, 49, 46]⟩ : ByteArray) ++ vt ++ (⟨#[32]⟩ : ByteArray) ++ sx ++ (⟨#[32]⟩ : ByteArray) ++ rx).data.toList = raS st mi by
  rw [bat_app, bat_app, bat_app, bat_app, bat_app]
  unfold raS vtx
  rw [HVd0, HSd0, HRd0])
 have HSs := Ho (show ((⟨#[72, 84, 84, 80, 47, 49, 46]⟩ : ByteArray) ++ vt ++ (⟨#[32]⟩ : ByteArray) ++ sx ++ (⟨#[32]⟩ : ByteArray) ++ rx).size = (raS st mi).length by rw [Go.Lib.size_eq, HSd.o])
 have HVz := Ho (show vt.size ≤ 64 by omega)
 have HSz := Ho (show sx.size ≤ 64 by omega)
 have HRz := Ho (show rx.size ≤ 64 by omega)
 have hl0 : ¬ 9223372036854775807 < 7 + vt.size := by omega
 have hl1 : ¬ 9223372036854775807 < 7 + vt.size + 1 := by omega
 have hl2 : ¬ 9223372036854775807 < 7 + vt.size + 1 + sx.size := by omega
 have hl3 : ¬ 9223372036854775807 < 7 + vt.size + 1 + sx.size + 1 := by omega
 have hl4 : ¬ 9223372036854775807 < 7 + vt.size + 1 + sx.size + 1 + rx.size := by omega
 clear HVz0 HVd0 HSz0 HSd0 HRz0 HRd0 HVx HSx HRx hil hsl2 hrl hRi hRs
 have HHb := Ho (fun a2 c2 w' (h : FdL w' a2 F c2) => RheadBytes_walk a2 F c2 w' h (by omega))
 have HCf := Ho (fun a2 c2 w' (h : FdL w' a2 F c2) => Rchecked_walk a2 F c2 w' h (by omega))
 have HLd := Ho (fun (st : ByteArray) a2 c2 w' (h : FdL w' a2 F c2) (h2 : Sb w' (.slice ab nb cb') bd) h3 h4 h5 => Rlaid_walk st a2 F c2 _ bd w' h h2 h3 h4 h5)
 obtain ⟨nF, hnF⟩ := ny F.length
 have HNF := Ho hnF
 obtain ⟨z, hz⟩ := ny (szs F)
 rw [hnF] at HHb HCf HLd
 rw [hz] at HHb HLd HC HZf
 clear hnF hz
 have HA0 := Ho (at_new w 51 [.int .i64 st, .int .i64 mi, .slice a fs.length c, .slice ab nb cb', .bool cl])
 have HU0 := Ho ((Up.refl w).alloc (.cells [.int .i64 st, .int .i64 mi, .slice a fs.length c, .slice ab nb cb', .bool cl].toArray 51))
 have HT0 := Ho (tld_neg fs)
 have HT1 := Ho (tld_nat fs nb)
 have HF1 := HFr.o
 unfold raF at HF1
 go_enter Tryz.func14, Tryz.ntmps14
 go_wp2_with (with_reducible refine sL 23 ?_)
 show wpList _ _ _ _ _ _
 obtain ⟨w1, hw1⟩ := ny (w.alloc (.cells [.int .i64 st, .int .i64 mi, .slice a fs.length c, .slice ab nb cb', .bool cl].toArray 51))
 rw [hw1] at HA0 HU0
 change wpList _ _ _ _ _ (w.alloc (.cells [.int .i64 st, .int .i64 mi, .slice a fs.length c, .slice ab nb cb', .bool cl].toArray 51))
 rw [hw1]
 clear hw1
 have c3 := HA0.o.cell (i := 3) rfl
 have c0 := HA0.o.cell (i := 0) rfl
 go_wp2_with fail
 refine (Rbare_walk st w1).mono ?_
 rintro e w2 ⟨rfl, h9⟩
 obtain rfl := h9.symm
 clear h9
 dsimp only
 cases hno : bdl st with
 | true =>
  have HT := Ho (show tld fs (-1) = F by rw [HT0.o, ← HF1, if_pos hno])
  have HNb := Ho hno
  clear HT0 HT1 HF1 hno
  have c2 := HA0.o.cell (i := 2) rfl
  go_wp2_with fail
  refine (Rprinted_walk a fs c (-1) w1 (HF.o.up HU0.o) (by omega) (by omega) (by omega)).mono ?_
  rintro e w2 ⟨⟨a2, c2', rfl, hO2⟩, h9⟩
  have HU2 := Ho (HU0.o.trans h9)
  have HA2 := Ho (HA0.o.up h9)
  have hO3 := hO2.o.fdl
  rw [HT.o] at hO3 ⊢
  have HF2 := Ho hO3
  have hcap2 := hO3.cap
  rw [HNF.o] at hcap2 ⊢
  clear h9 hO2 hO3 c2 c0 c3 HT
  dsimp only
  go_wp2_with fail
  refine (HHb.o _ _ _ HF2.o).mono ?_
  rintro e w4 ⟨rfl, h9⟩
  have HU4 := Ho (HU2.o.trans h9)
  have HA4 := Ho (HA2.o.up h9)
  have HF4 := Ho (HF2.o.up h9)
  clear h9
  dsimp only
  by_cases h2 : 16384 < z
  · have h2z : (16384 : Int) < (z : Int) := by omega
    have HE := Ho (show rv = .error 1 by rw [HRv.o, ← HC.o, if_pos h2]; rfl)
    go_wp2
    go_ret2
    rw [HE.o]
    exact ⟨rfl, HU4.o⟩
  · have h2z : ¬ (16384 : Int) < (z : Int) := by omega
    rw [if_neg h2] at HC
    have c1 := HA4.o.cell (i := 1) rfl
    by_cases hm2 : mi = 0
    · subst hm2
      rw [if_neg (show ¬ mnr 0 = false by decide)] at HC
      have c0 := HA4.o.cell (i := 0) rfl
      by_cases ht1 : st < 100
      · have HSf := Ho (show sto st = false by unfold sto; rw [decide_eq_false (show ¬ 100 ≤ st by omega)]; rfl)
        have HE := Ho (show rv = .error 11 by rw [HRv.o, ← HC.o, if_pos HSf.o]; rfl)
        go_wp2
        go_ret2
        rw [HE.o]
        exact ⟨rfl, HU4.o⟩
      · by_cases ht2 : 599 < st
        · have HSf := Ho (show sto st = false by unfold sto; rw [decide_eq_false (show ¬ st ≤ 599 by omega), Bool.and_false])
          have HE := Ho (show rv = .error 11 by rw [HRv.o, ← HC.o, if_pos HSf.o]; rfl)
          go_wp2
          go_ret2
          rw [HE.o]
          exact ⟨rfl, HU4.o⟩
        · have HSt := Ho (show sto st = true by unfold sto; rw [decide_eq_true (show 100 ≤ st by omega), decide_eq_true (show st ≤ 599 by omega)]; rfl)
          rw [if_neg (by rw [HSt.o]; simp)] at HC
          go_wp2_with fail
          refine (HCf.o _ _ _ HF4.o).mono ?_
          rintro e w8 ⟨rfl, h9⟩
          have HU8 := Ho (HU4.o.trans h9)
          have HA8 := Ho (HA4.o.up h9)
          have HF8 := Ho (HF4.o.up h9)
          clear h9
          dsimp only
          clear c0
          cases hcf : ckf F with
          | some k =>
           have hkz := nums_ne (ckf_lt hcf)
           have HE := Ho (show rv = .error k by rw [HRv.o, ← HC.o, hcf]; rfl)
           clear hcf
           rw [show ckN (some k) = nums k from rfl]
           go_wp2
           go_ret2
           rw [HE.o]
           exact ⟨rfl, HU8.o⟩
          | none =>
           rw [hcf] at HC
           rw [show ckN none = 0 from rfl]
           clear hcf
           have c3 := HA8.o.cell (i := 3) rfl
           by_cases hbl : 1048576 < nb
           · have hblz : (1048576 : Int) < (nb : Int) := by omega
             have HE := Ho (show rv = .error 7 by rw [HRv.o, ← HC.o, if_pos hbl]; rfl)
             go_wp2
             go_ret2
             rw [HE.o]
             exact ⟨rfl, HU8.o⟩
           · have hblz : ¬ (1048576 : Int) < (nb : Int) := by omega
             by_cases hb1 : 0 < nb
             · have hb1z : (0 : Int) < (nb : Int) := by omega
               have HE := Ho (show rv = .error 7 by rw [HRv.o, ← HC.o, if_neg hbl, if_pos ⟨hb1, HNb.o⟩]; rfl)
               go_wp2
               go_ret2
               rw [HE.o]
               exact ⟨rfl, HU8.o⟩
             · have hb1z : ¬ (0 : Int) < (nb : Int) := by omega
               have HB0 := Ho (show ¬ (0 < nb ∧ bdl st = true) from fun h => hb1 h.1)
               have HNo := Ho (raS_no HSt.o (show mnr 0 = true by decide)).2
               go_wp2
               clear c3
               have HUd := Ho HU8.o.drew
               have HAd := Ho (HA8.o.up (Up.refl _).drew)
               have HFd := Ho (HF8.o.up (Up.refl _).drew)
               refine wp_region_held_drew (S := fun w2 => At w2 w.heap.size 51 [.int .i64 st, .int .i64 0, .slice a fs.length c, .slice ab nb cb', .bool cl] ∧ Up w w2) (by kernel_rfl) ⟨HAd.o, HUd.o⟩ (fun hS => ?_)
               refine tN 0 (some 57) (.fieldAddr 51 (.tmp 1) 1) 0 (.pointer (some ⟨w.heap.size, 1, none⟩)) hS ?_
               simp only [Act.put, pB, pC, pD]
               refine tK 1 (some 58) (.load 3 (.tmp 57)) 3 (.int .i64 0) hS ?_ ?_
               · intro _ _ w5 hSw
                 have h0 := hSw.1.cell (i := 1) rfl
                 clear hSw hS
                 go_simp
               simp only [pA, pB, pC, pD]
               refine tN 5 (some 62) (.fieldAddr 51 (.tmp 1) 0) 0 (.pointer (some ⟨w.heap.size, 0, none⟩)) hS ?_
               simp only [pA, pB, pC, pD]
               refine tK 6 (some 63) (.load 3 (.tmp 62)) 3 (.int .i64 st) hS ?_ ?_
               · intro _ _ w5 hSw
                 have h0 := hSw.1.cell (i := 0) rfl
                 clear hSw hS
                 go_simp
               simp only [pA, pB, pC, pD]
               refine tN 10 (some 67) (.fieldAddr 51 (.tmp 1) 0) 0 (.pointer (some ⟨w.heap.size, 0, none⟩)) hS ?_
               simp only [pA, pB, pC, pD]
               refine tK 11 (some 68) (.load 3 (.tmp 67)) 3 (.int .i64 st) hS ?_ ?_
               · intro _ _ w5 hSw
                 have h0 := hSw.1.cell (i := 0) rfl
                 clear hSw hS
                 go_simp
               simp only [pA, pB, pC, pD]
               refine rD 2 (some 59) (.call ⟨.value (.func 31), #[.tmp 58], #[2]⟩) 9 fun _ _ K hK => ?_
               rw [if_pos (by kernel_rfl)]
               go_simp
               refine (HFm.o w8.drew).mono ?_
               rintro e w10 ⟨rfl, h9⟩
               have HU10 := Ho (HUd.o.trans h9)
               have HA10 := Ho (HAd.o.up h9)
               have HF10 := Ho (HFd.o.up h9)
               clear h9 hS
               dsimp only
               refine hK.out _ _ ⟨HA10.o, HU10.o⟩ (fun hS => ?_)
               clear hK K
               refine tK 3 (some 60) (.binOp .add 9 (.const (.string { data := #[72, 84, 84, 80, 47, 49, 46] })) (.tmp 59) 9) 9 (.string ((⟨#[72, 84, 84, 80, 47, 49, 46]⟩ : ByteArray) ++ vt)) hS ?_ ?_
               · intro _ _ w5 hSw
                 clear hSw hS
                 have hvz := HVz.o
                 have hsz := HSz.o
                 have hrz := HRz.o
                 go_simp
               simp only [Act.put, pB, pC, pD]
               refine tK 4 (some 61) (.binOp .add 9 (.tmp 60) (.const (.string { data := #[32] })) 9) 9 (.string ((⟨#[72, 84, 84, 80, 47, 49, 46]⟩ : ByteArray) ++ vt ++ (⟨#[32]⟩ : ByteArray))) hS ?_ ?_
               · intro _ _ w5 hSw
                 clear hSw hS
                 have hvz := HVz.o
                 have hsz := HSz.o
                 have hrz := HRz.o
                 go_simp
               simp only [pA, pB, pC, pD]
               refine rD 7 (some 64) (.call ⟨.value (.func 31), #[.tmp 63], #[2]⟩) 9 fun _ _ K hK => ?_
               rw [if_pos (by kernel_rfl)]
               go_simp
               refine (HFs.o w10).mono ?_
               rintro e w11 ⟨rfl, h9⟩
               have HU11 := Ho (HU10.o.trans h9)
               have HA11 := Ho (HA10.o.up h9)
               have HF11 := Ho (HF10.o.up h9)
               clear h9 hS
               dsimp only
               refine hK.out _ _ ⟨HA11.o, HU11.o⟩ (fun hS => ?_)
               clear hK K
               refine tK 8 (some 65) (.binOp .add 9 (.tmp 61) (.tmp 64) 9) 9 (.string ((⟨#[72, 84, 84, 80, 47, 49, 46]⟩ : ByteArray) ++ vt ++ (⟨#[32]⟩ : ByteArray) ++ sx)) hS ?_ ?_
               · intro _ _ w5 hSw
                 clear hSw hS
                 have hvz := HVz.o
                 have hsz := HSz.o
                 have hrz := HRz.o
                 go_simp
               simp only [Act.put, pB, pC, pD]
               refine tK 9 (some 66) (.binOp .add 9 (.tmp 65) (.const (.string { data := #[32] })) 9) 9 (.string ((⟨#[72, 84, 84, 80, 47, 49, 46]⟩ : ByteArray) ++ vt ++ (⟨#[32]⟩ : ByteArray) ++ sx ++ (⟨#[32]⟩ : ByteArray))) hS ?_ ?_
               · intro _ _ w5 hSw
                 clear hSw hS
                 have hvz := HVz.o
                 have hsz := HSz.o
                 have hrz := HRz.o
                 go_simp
               simp only [pA, pB, pC, pD]
               refine rD 12 (some 69) (.call ⟨.value (.func 46), #[.tmp 68], #[3]⟩) 9 fun _ _ K hK => ?_
               rw [if_pos (by kernel_rfl)]
               go_simp
               refine (HRr.o w11 HU11.o).mono ?_
               rintro e w12 ⟨rfl, h9⟩
               have HU12 := Ho (HU11.o.trans h9)
               have HA12 := Ho (HA11.o.up h9)
               have HF12 := Ho (HF11.o.up h9)
               clear h9 hS
               dsimp only
               refine hK.out _ _ ⟨HA12.o, HU12.o⟩ (fun hS => ?_)
               clear hK K
               refine tK 13 (some 70) (.binOp .add 9 (.tmp 66) (.tmp 69) 9) 9 (.string ((⟨#[72, 84, 84, 80, 47, 49, 46]⟩ : ByteArray) ++ vt ++ (⟨#[32]⟩ : ByteArray) ++ sx ++ (⟨#[32]⟩ : ByteArray) ++ rx)) hS ?_ ?_
               · intro _ _ w5 hSw
                 clear hSw hS
                 have hvz := HVz.o
                 have hsz := HSz.o
                 have hrz := HRz.o
                 go_simp
               simp only [Act.put, pB, pC, pD]
               refine tN 14 (some 8) (.assign (.tmp 70)) 9 (.string ((⟨#[72, 84, 84, 80, 47, 49, 46]⟩ : ByteArray) ++ vt ++ (⟨#[32]⟩ : ByteArray) ++ sx ++ (⟨#[32]⟩ : ByteArray) ++ rx)) hS ?_
               simp only [pA, pB, pC, pD]
               clear hS
               refine wpAnyH_done (by kernel_rfl) ?_ _
               generalize (⟨#[72, 84, 84, 80, 47, 49, 46]⟩ : ByteArray) ++ vt ++ (⟨#[32]⟩ : ByteArray) ++ sx ++ (⟨#[32]⟩ : ByteArray) ++ rx = fst at HSd HSs ⊢
               have hbl2 : bd.length ≤ 1048576 := by have := HBn.o; omega
               have hfl : fst.size ≤ 1048576 := by rw [HSs.o]; exact Nat.le_trans HNo.o (by decide)
               have c3 := HA12.o.cell (i := 3) rfl
               go_wp2_with fail
               refine (HLd.o fst _ _ _ HF12.o (HB.o.up HU12.o) hfl (by omega) hbl2).mono ?_
               rintro e w13 ⟨⟨a8, c8, rfl, hO8⟩, h9⟩
               have HU13 := Ho (HU12.o.trans h9)
               have HO8 := Ho hO8.o
               clear h9 hO8
               rw [HSd.o] at HO8 ⊢
               dsimp only
               have HE := Ho (show rv = .ok (prt (raS st 0) F bd) by rw [HRv.o, ← HC.o, if_neg hbl, if_neg HB0.o]; rfl)
               go_wp2
               go_ret2
               rw [HE.o]
               exact ⟨⟨a8, c8, rfl, Ho HO8.o⟩, HU13.o⟩
    · by_cases hm3 : mi = 1
      · subst hm3
        rw [if_neg (show ¬ mnr 1 = false by decide)] at HC
        have c0 := HA4.o.cell (i := 0) rfl
        by_cases ht1 : st < 100
        · have HSf := Ho (show sto st = false by unfold sto; rw [decide_eq_false (show ¬ 100 ≤ st by omega)]; rfl)
          have HE := Ho (show rv = .error 11 by rw [HRv.o, ← HC.o, if_pos HSf.o]; rfl)
          go_wp2
          go_ret2
          rw [HE.o]
          exact ⟨rfl, HU4.o⟩
        · by_cases ht2 : 599 < st
          · have HSf := Ho (show sto st = false by unfold sto; rw [decide_eq_false (show ¬ st ≤ 599 by omega), Bool.and_false])
            have HE := Ho (show rv = .error 11 by rw [HRv.o, ← HC.o, if_pos HSf.o]; rfl)
            go_wp2
            go_ret2
            rw [HE.o]
            exact ⟨rfl, HU4.o⟩
          · have HSt := Ho (show sto st = true by unfold sto; rw [decide_eq_true (show 100 ≤ st by omega), decide_eq_true (show st ≤ 599 by omega)]; rfl)
            rw [if_neg (by rw [HSt.o]; simp)] at HC
            go_wp2_with fail
            refine (HCf.o _ _ _ HF4.o).mono ?_
            rintro e w8 ⟨rfl, h9⟩
            have HU8 := Ho (HU4.o.trans h9)
            have HA8 := Ho (HA4.o.up h9)
            have HF8 := Ho (HF4.o.up h9)
            clear h9
            dsimp only
            clear c0
            cases hcf : ckf F with
            | some k =>
             have hkz := nums_ne (ckf_lt hcf)
             have HE := Ho (show rv = .error k by rw [HRv.o, ← HC.o, hcf]; rfl)
             clear hcf
             rw [show ckN (some k) = nums k from rfl]
             go_wp2
             go_ret2
             rw [HE.o]
             exact ⟨rfl, HU8.o⟩
            | none =>
             rw [hcf] at HC
             rw [show ckN none = 0 from rfl]
             clear hcf
             have c3 := HA8.o.cell (i := 3) rfl
             by_cases hbl : 1048576 < nb
             · have hblz : (1048576 : Int) < (nb : Int) := by omega
               have HE := Ho (show rv = .error 7 by rw [HRv.o, ← HC.o, if_pos hbl]; rfl)
               go_wp2
               go_ret2
               rw [HE.o]
               exact ⟨rfl, HU8.o⟩
             · have hblz : ¬ (1048576 : Int) < (nb : Int) := by omega
               by_cases hb1 : 0 < nb
               · have hb1z : (0 : Int) < (nb : Int) := by omega
                 have HE := Ho (show rv = .error 7 by rw [HRv.o, ← HC.o, if_neg hbl, if_pos ⟨hb1, HNb.o⟩]; rfl)
                 go_wp2
                 go_ret2
                 rw [HE.o]
                 exact ⟨rfl, HU8.o⟩
               · have hb1z : ¬ (0 : Int) < (nb : Int) := by omega
                 have HB0 := Ho (show ¬ (0 < nb ∧ bdl st = true) from fun h => hb1 h.1)
                 have HNo := Ho (raS_no HSt.o (show mnr 1 = true by decide)).2
                 go_wp2
                 clear c3
                 have HUd := Ho HU8.o.drew
                 have HAd := Ho (HA8.o.up (Up.refl _).drew)
                 have HFd := Ho (HF8.o.up (Up.refl _).drew)
                 refine wp_region_held_drew (S := fun w2 => At w2 w.heap.size 51 [.int .i64 st, .int .i64 1, .slice a fs.length c, .slice ab nb cb', .bool cl] ∧ Up w w2) (by kernel_rfl) ⟨HAd.o, HUd.o⟩ (fun hS => ?_)
                 refine tN 0 (some 57) (.fieldAddr 51 (.tmp 1) 1) 0 (.pointer (some ⟨w.heap.size, 1, none⟩)) hS ?_
                 simp only [pA, pB, pC, pD]
                 refine tK 1 (some 58) (.load 3 (.tmp 57)) 3 (.int .i64 1) hS ?_ ?_
                 · intro _ _ w5 hSw
                   have h0 := hSw.1.cell (i := 1) rfl
                   clear hSw hS
                   go_simp
                 simp only [pA, pB, pC, pD]
                 refine tN 5 (some 62) (.fieldAddr 51 (.tmp 1) 0) 0 (.pointer (some ⟨w.heap.size, 0, none⟩)) hS ?_
                 simp only [pA, pB, pC, pD]
                 refine tK 6 (some 63) (.load 3 (.tmp 62)) 3 (.int .i64 st) hS ?_ ?_
                 · intro _ _ w5 hSw
                   have h0 := hSw.1.cell (i := 0) rfl
                   clear hSw hS
                   go_simp
                 simp only [pA, pB, pC, pD]
                 refine tN 10 (some 67) (.fieldAddr 51 (.tmp 1) 0) 0 (.pointer (some ⟨w.heap.size, 0, none⟩)) hS ?_
                 simp only [pA, pB, pC, pD]
                 refine tK 11 (some 68) (.load 3 (.tmp 67)) 3 (.int .i64 st) hS ?_ ?_
                 · intro _ _ w5 hSw
                   have h0 := hSw.1.cell (i := 0) rfl
                   clear hSw hS
                   go_simp
                 simp only [pA, pB, pC, pD]
                 refine rD 2 (some 59) (.call ⟨.value (.func 31), #[.tmp 58], #[2]⟩) 9 fun _ _ K hK => ?_
                 rw [if_pos (by kernel_rfl)]
                 go_simp
                 refine (HFm.o w8.drew).mono ?_
                 rintro e w10 ⟨rfl, h9⟩
                 have HU10 := Ho (HUd.o.trans h9)
                 have HA10 := Ho (HAd.o.up h9)
                 have HF10 := Ho (HFd.o.up h9)
                 clear h9 hS
                 dsimp only
                 refine hK.out _ _ ⟨HA10.o, HU10.o⟩ (fun hS => ?_)
                 clear hK K
                 refine tK 3 (some 60) (.binOp .add 9 (.const (.string { data := #[72, 84, 84, 80, 47, 49, 46] })) (.tmp 59) 9) 9 (.string ((⟨#[72, 84, 84, 80, 47, 49, 46]⟩ : ByteArray) ++ vt)) hS ?_ ?_
                 · intro _ _ w5 hSw
                   clear hSw hS
                   have hvz := HVz.o
                   have hsz := HSz.o
                   have hrz := HRz.o
                   go_simp
                 simp only [Act.put, pB, pC, pD]
                 refine tK 4 (some 61) (.binOp .add 9 (.tmp 60) (.const (.string { data := #[32] })) 9) 9 (.string ((⟨#[72, 84, 84, 80, 47, 49, 46]⟩ : ByteArray) ++ vt ++ (⟨#[32]⟩ : ByteArray))) hS ?_ ?_
                 · intro _ _ w5 hSw
                   clear hSw hS
                   have hvz := HVz.o
                   have hsz := HSz.o
                   have hrz := HRz.o
                   go_simp
                 simp only [pA, pB, pC, pD]
                 refine rD 7 (some 64) (.call ⟨.value (.func 31), #[.tmp 63], #[2]⟩) 9 fun _ _ K hK => ?_
                 rw [if_pos (by kernel_rfl)]
                 go_simp
                 refine (HFs.o w10).mono ?_
                 rintro e w11 ⟨rfl, h9⟩
                 have HU11 := Ho (HU10.o.trans h9)
                 have HA11 := Ho (HA10.o.up h9)
                 have HF11 := Ho (HF10.o.up h9)
                 clear h9 hS
                 dsimp only
                 refine hK.out _ _ ⟨HA11.o, HU11.o⟩ (fun hS => ?_)
                 clear hK K
                 refine tK 8 (some 65) (.binOp .add 9 (.tmp 61) (.tmp 64) 9) 9 (.string ((⟨#[72, 84, 84, 80, 47, 49, 46]⟩ : ByteArray) ++ vt ++ (⟨#[32]⟩ : ByteArray) ++ sx)) hS ?_ ?_
                 · intro _ _ w5 hSw
                   clear hSw hS
                   have hvz := HVz.o
                   have hsz := HSz.o
                   have hrz := HRz.o
                   go_simp
                 simp only [Act.put, pB, pC, pD]
                 refine tK 9 (some 66) (.binOp .add 9 (.tmp 65) (.const (.string { data := #[32] })) 9) 9 (.string ((⟨#[72, 84, 84, 80, 47, 49, 46]⟩ : ByteArray) ++ vt ++ (⟨#[32]⟩ : ByteArray) ++ sx ++ (⟨#[32]⟩ : ByteArray))) hS ?_ ?_
                 · intro _ _ w5 hSw
                   clear hSw hS
                   have hvz := HVz.o
                   have hsz := HSz.o
                   have hrz := HRz.o
                   go_simp
                 simp only [pA, pB, pC, pD]
                 refine rD 12 (some 69) (.call ⟨.value (.func 46), #[.tmp 68], #[3]⟩) 9 fun _ _ K hK => ?_
                 rw [if_pos (by kernel_rfl)]
                 go_simp
                 refine (HRr.o w11 HU11.o).mono ?_
                 rintro e w12 ⟨rfl, h9⟩
                 have HU12 := Ho (HU11.o.trans h9)
                 have HA12 := Ho (HA11.o.up h9)
                 have HF12 := Ho (HF11.o.up h9)
                 clear h9 hS
                 dsimp only
                 refine hK.out _ _ ⟨HA12.o, HU12.o⟩ (fun hS => ?_)
                 clear hK K
                 refine tK 13 (some 70) (.binOp .add 9 (.tmp 66) (.tmp 69) 9) 9 (.string ((⟨#[72, 84, 84, 80, 47, 49, 46]⟩ : ByteArray) ++ vt ++ (⟨#[32]⟩ : ByteArray) ++ sx ++ (⟨#[32]⟩ : ByteArray) ++ rx)) hS ?_ ?_
                 · intro _ _ w5 hSw
                   clear hSw hS
                   have hvz := HVz.o
                   have hsz := HSz.o
                   have hrz := HRz.o
                   go_simp
                 simp only [Act.put, pB, pC, pD]
                 refine tN 14 (some 8) (.assign (.tmp 70)) 9 (.string ((⟨#[72, 84, 84, 80, 47, 49, 46]⟩ : ByteArray) ++ vt ++ (⟨#[32]⟩ : ByteArray) ++ sx ++ (⟨#[32]⟩ : ByteArray) ++ rx)) hS ?_
                 simp only [pA, pB, pC, pD]
                 clear hS
                 refine wpAnyH_done (by kernel_rfl) ?_ _
                 generalize (⟨#[72, 84, 84, 80, 47, 49, 46]⟩ : ByteArray) ++ vt ++ (⟨#[32]⟩ : ByteArray) ++ sx ++ (⟨#[32]⟩ : ByteArray) ++ rx = fst at HSd HSs ⊢
                 have hbl2 : bd.length ≤ 1048576 := by have := HBn.o; omega
                 have hfl : fst.size ≤ 1048576 := by rw [HSs.o]; exact Nat.le_trans HNo.o (by decide)
                 have c3 := HA12.o.cell (i := 3) rfl
                 go_wp2_with fail
                 refine (HLd.o fst _ _ _ HF12.o (HB.o.up HU12.o) hfl (by omega) hbl2).mono ?_
                 rintro e w13 ⟨⟨a8, c8, rfl, hO8⟩, h9⟩
                 have HU13 := Ho (HU12.o.trans h9)
                 have HO8 := Ho hO8.o
                 clear h9 hO8
                 rw [HSd.o] at HO8 ⊢
                 dsimp only
                 have HE := Ho (show rv = .ok (prt (raS st 1) F bd) by rw [HRv.o, ← HC.o, if_neg hbl, if_neg HB0.o]; rfl)
                 go_wp2
                 go_ret2
                 rw [HE.o]
                 exact ⟨⟨a8, c8, rfl, Ho HO8.o⟩, HU13.o⟩
      · have q0 : (mi == 0) = false := beq_eq_false_iff_ne.2 hm2
        have q1 : (mi == 1) = false := beq_eq_false_iff_ne.2 hm3
        have q2 : (mi != 0) = true := by rw [bne, q0]; rfl
        have q3 : (mi != 1) = true := by rw [bne, q1]; rfl
        have HMf := Ho (show mnr mi = false by rw [mnr_eq, q0, q1]; rfl)
        have HE := Ho (show rv = .error 4 by rw [HRv.o, ← HC.o, if_pos HMf.o]; rfl)
        go_wp2
        go_ret2
        rw [HE.o]
        exact ⟨rfl, HU4.o⟩
 | false =>
  have HT := Ho (show tld fs (nb : Int) = F by rw [HT1.o, ← HF1, if_neg (by rw [hno]; simp)])
  have HNb := Ho hno
  clear HT0 HT1 HF1 hno
  have c2 := HA0.o.cell (i := 2) rfl
  go_wp2_with fail
  refine (Rprinted_walk a fs c (nb : Int) w1 (HF.o.up HU0.o) (by omega) (by omega) (by omega)).mono ?_
  rintro e w2 ⟨⟨a2, c2', rfl, hO2⟩, h9⟩
  have HU2 := Ho (HU0.o.trans h9)
  have HA2 := Ho (HA0.o.up h9)
  have hO3 := hO2.o.fdl
  rw [HT.o] at hO3 ⊢
  have HF2 := Ho hO3
  have hcap2 := hO3.cap
  rw [HNF.o] at hcap2 ⊢
  clear h9 hO2 hO3 c2 c0 c3 HT
  dsimp only
  go_wp2_with fail
  refine (HHb.o _ _ _ HF2.o).mono ?_
  rintro e w4 ⟨rfl, h9⟩
  have HU4 := Ho (HU2.o.trans h9)
  have HA4 := Ho (HA2.o.up h9)
  have HF4 := Ho (HF2.o.up h9)
  clear h9
  dsimp only
  by_cases h2 : 16384 < z
  · have h2z : (16384 : Int) < (z : Int) := by omega
    have HE := Ho (show rv = .error 1 by rw [HRv.o, ← HC.o, if_pos h2]; rfl)
    go_wp2
    go_ret2
    rw [HE.o]
    exact ⟨rfl, HU4.o⟩
  · have h2z : ¬ (16384 : Int) < (z : Int) := by omega
    rw [if_neg h2] at HC
    have c1 := HA4.o.cell (i := 1) rfl
    by_cases hm2 : mi = 0
    · subst hm2
      rw [if_neg (show ¬ mnr 0 = false by decide)] at HC
      have c0 := HA4.o.cell (i := 0) rfl
      by_cases ht1 : st < 100
      · have HSf := Ho (show sto st = false by unfold sto; rw [decide_eq_false (show ¬ 100 ≤ st by omega)]; rfl)
        have HE := Ho (show rv = .error 11 by rw [HRv.o, ← HC.o, if_pos HSf.o]; rfl)
        go_wp2
        go_ret2
        rw [HE.o]
        exact ⟨rfl, HU4.o⟩
      · by_cases ht2 : 599 < st
        · have HSf := Ho (show sto st = false by unfold sto; rw [decide_eq_false (show ¬ st ≤ 599 by omega), Bool.and_false])
          have HE := Ho (show rv = .error 11 by rw [HRv.o, ← HC.o, if_pos HSf.o]; rfl)
          go_wp2
          go_ret2
          rw [HE.o]
          exact ⟨rfl, HU4.o⟩
        · have HSt := Ho (show sto st = true by unfold sto; rw [decide_eq_true (show 100 ≤ st by omega), decide_eq_true (show st ≤ 599 by omega)]; rfl)
          rw [if_neg (by rw [HSt.o]; simp)] at HC
          go_wp2_with fail
          refine (HCf.o _ _ _ HF4.o).mono ?_
          rintro e w8 ⟨rfl, h9⟩
          have HU8 := Ho (HU4.o.trans h9)
          have HA8 := Ho (HA4.o.up h9)
          have HF8 := Ho (HF4.o.up h9)
          clear h9
          dsimp only
          clear c0
          cases hcf : ckf F with
          | some k =>
           have hkz := nums_ne (ckf_lt hcf)
           have HE := Ho (show rv = .error k by rw [HRv.o, ← HC.o, hcf]; rfl)
           clear hcf
           rw [show ckN (some k) = nums k from rfl]
           go_wp2
           go_ret2
           rw [HE.o]
           exact ⟨rfl, HU8.o⟩
          | none =>
           rw [hcf] at HC
           rw [show ckN none = 0 from rfl]
           clear hcf
           have c3 := HA8.o.cell (i := 3) rfl
           by_cases hbl : 1048576 < nb
           · have hblz : (1048576 : Int) < (nb : Int) := by omega
             have HE := Ho (show rv = .error 7 by rw [HRv.o, ← HC.o, if_pos hbl]; rfl)
             go_wp2
             go_ret2
             rw [HE.o]
             exact ⟨rfl, HU8.o⟩
           · have hblz : ¬ (1048576 : Int) < (nb : Int) := by omega
             have HB0 := Ho (show ¬ (0 < nb ∧ bdl st = true) by rw [HNb.o]; simp)
             have HNo := Ho (raS_no HSt.o (show mnr 0 = true by decide)).2
             go_wp2
             clear c3
             have HUd := Ho HU8.o.drew
             have HAd := Ho (HA8.o.up (Up.refl _).drew)
             have HFd := Ho (HF8.o.up (Up.refl _).drew)
             refine wp_region_held_drew (S := fun w2 => At w2 w.heap.size 51 [.int .i64 st, .int .i64 0, .slice a fs.length c, .slice ab nb cb', .bool cl] ∧ Up w w2) (by kernel_rfl) ⟨HAd.o, HUd.o⟩ (fun hS => ?_)
             refine tN 0 (some 57) (.fieldAddr 51 (.tmp 1) 1) 0 (.pointer (some ⟨w.heap.size, 1, none⟩)) hS ?_
             simp only [pA, pB, pC, pD]
             refine tK 1 (some 58) (.load 3 (.tmp 57)) 3 (.int .i64 0) hS ?_ ?_
             · intro _ _ w5 hSw
               have h0 := hSw.1.cell (i := 1) rfl
               clear hSw hS
               go_simp
             simp only [pA, pB, pC, pD]
             refine tN 5 (some 62) (.fieldAddr 51 (.tmp 1) 0) 0 (.pointer (some ⟨w.heap.size, 0, none⟩)) hS ?_
             simp only [pA, pB, pC, pD]
             refine tK 6 (some 63) (.load 3 (.tmp 62)) 3 (.int .i64 st) hS ?_ ?_
             · intro _ _ w5 hSw
               have h0 := hSw.1.cell (i := 0) rfl
               clear hSw hS
               go_simp
             simp only [pA, pB, pC, pD]
             refine tN 10 (some 67) (.fieldAddr 51 (.tmp 1) 0) 0 (.pointer (some ⟨w.heap.size, 0, none⟩)) hS ?_
             simp only [pA, pB, pC, pD]
             refine tK 11 (some 68) (.load 3 (.tmp 67)) 3 (.int .i64 st) hS ?_ ?_
             · intro _ _ w5 hSw
               have h0 := hSw.1.cell (i := 0) rfl
               clear hSw hS
               go_simp
             simp only [pA, pB, pC, pD]
             refine rD 2 (some 59) (.call ⟨.value (.func 31), #[.tmp 58], #[2]⟩) 9 fun _ _ K hK => ?_
             rw [if_pos (by kernel_rfl)]
             go_simp
             refine (HFm.o w8.drew).mono ?_
             rintro e w10 ⟨rfl, h9⟩
             have HU10 := Ho (HUd.o.trans h9)
             have HA10 := Ho (HAd.o.up h9)
             have HF10 := Ho (HFd.o.up h9)
             clear h9 hS
             dsimp only
             refine hK.out _ _ ⟨HA10.o, HU10.o⟩ (fun hS => ?_)
             clear hK K
             refine tK 3 (some 60) (.binOp .add 9 (.const (.string { data := #[72, 84, 84, 80, 47, 49, 46] })) (.tmp 59) 9) 9 (.string ((⟨#[72, 84, 84, 80, 47, 49, 46]⟩ : ByteArray) ++ vt)) hS ?_ ?_
             · intro _ _ w5 hSw
               clear hSw hS
               have hvz := HVz.o
               have hsz := HSz.o
               have hrz := HRz.o
               go_simp
             simp only [Act.put, pB, pC, pD]
             refine tK 4 (some 61) (.binOp .add 9 (.tmp 60) (.const (.string { data := #[32] })) 9) 9 (.string ((⟨#[72, 84, 84, 80, 47, 49, 46]⟩ : ByteArray) ++ vt ++ (⟨#[32]⟩ : ByteArray))) hS ?_ ?_
             · intro _ _ w5 hSw
               clear hSw hS
               have hvz := HVz.o
               have hsz := HSz.o
               have hrz := HRz.o
               go_simp
             simp only [pA, pB, pC, pD]
             refine rD 7 (some 64) (.call ⟨.value (.func 31), #[.tmp 63], #[2]⟩) 9 fun _ _ K hK => ?_
             rw [if_pos (by kernel_rfl)]
             go_simp
             refine (HFs.o w10).mono ?_
             rintro e w11 ⟨rfl, h9⟩
             have HU11 := Ho (HU10.o.trans h9)
             have HA11 := Ho (HA10.o.up h9)
             have HF11 := Ho (HF10.o.up h9)
             clear h9 hS
             dsimp only
             refine hK.out _ _ ⟨HA11.o, HU11.o⟩ (fun hS => ?_)
             clear hK K
             refine tK 8 (some 65) (.binOp .add 9 (.tmp 61) (.tmp 64) 9) 9 (.string ((⟨#[72, 84, 84, 80, 47, 49, 46]⟩ : ByteArray) ++ vt ++ (⟨#[32]⟩ : ByteArray) ++ sx)) hS ?_ ?_
             · intro _ _ w5 hSw
               clear hSw hS
               have hvz := HVz.o
               have hsz := HSz.o
               have hrz := HRz.o
               go_simp
             simp only [Act.put, pB, pC, pD]
             refine tK 9 (some 66) (.binOp .add 9 (.tmp 65) (.const (.string { data := #[32] })) 9) 9 (.string ((⟨#[72, 84, 84, 80, 47, 49, 46]⟩ : ByteArray) ++ vt ++ (⟨#[32]⟩ : ByteArray) ++ sx ++ (⟨#[32]⟩ : ByteArray))) hS ?_ ?_
             · intro _ _ w5 hSw
               clear hSw hS
               have hvz := HVz.o
               have hsz := HSz.o
               have hrz := HRz.o
               go_simp
             simp only [pA, pB, pC, pD]
             refine rD 12 (some 69) (.call ⟨.value (.func 46), #[.tmp 68], #[3]⟩) 9 fun _ _ K hK => ?_
             rw [if_pos (by kernel_rfl)]
             go_simp
             refine (HRr.o w11 HU11.o).mono ?_
             rintro e w12 ⟨rfl, h9⟩
             have HU12 := Ho (HU11.o.trans h9)
             have HA12 := Ho (HA11.o.up h9)
             have HF12 := Ho (HF11.o.up h9)
             clear h9 hS
             dsimp only
             refine hK.out _ _ ⟨HA12.o, HU12.o⟩ (fun hS => ?_)
             clear hK K
             refine tK 13 (some 70) (.binOp .add 9 (.tmp 66) (.tmp 69) 9) 9 (.string ((⟨#[72, 84, 84, 80, 47, 49, 46]⟩ : ByteArray) ++ vt ++ (⟨#[32]⟩ : ByteArray) ++ sx ++ (⟨#[32]⟩ : ByteArray) ++ rx)) hS ?_ ?_
             · intro _ _ w5 hSw
               clear hSw hS
               have hvz := HVz.o
               have hsz := HSz.o
               have hrz := HRz.o
               go_simp
             simp only [Act.put, pB, pC, pD]
             refine tN 14 (some 8) (.assign (.tmp 70)) 9 (.string ((⟨#[72, 84, 84, 80, 47, 49, 46]⟩ : ByteArray) ++ vt ++ (⟨#[32]⟩ : ByteArray) ++ sx ++ (⟨#[32]⟩ : ByteArray) ++ rx)) hS ?_
             simp only [pA, pB, pC, pD]
             clear hS
             refine wpAnyH_done (by kernel_rfl) ?_ _
             generalize (⟨#[72, 84, 84, 80, 47, 49, 46]⟩ : ByteArray) ++ vt ++ (⟨#[32]⟩ : ByteArray) ++ sx ++ (⟨#[32]⟩ : ByteArray) ++ rx = fst at HSd HSs ⊢
             have hbl2 : bd.length ≤ 1048576 := by have := HBn.o; omega
             have hfl : fst.size ≤ 1048576 := by rw [HSs.o]; exact Nat.le_trans HNo.o (by decide)
             have c3 := HA12.o.cell (i := 3) rfl
             go_wp2_with fail
             refine (HLd.o fst _ _ _ HF12.o (HB.o.up HU12.o) hfl (by omega) hbl2).mono ?_
             rintro e w13 ⟨⟨a8, c8, rfl, hO8⟩, h9⟩
             have HU13 := Ho (HU12.o.trans h9)
             have HO8 := Ho hO8.o
             clear h9 hO8
             rw [HSd.o] at HO8 ⊢
             dsimp only
             have HE := Ho (show rv = .ok (prt (raS st 0) F bd) by rw [HRv.o, ← HC.o, if_neg hbl, if_neg HB0.o]; rfl)
             go_wp2
             go_ret2
             rw [HE.o]
             exact ⟨⟨a8, c8, rfl, Ho HO8.o⟩, HU13.o⟩
    · by_cases hm3 : mi = 1
      · subst hm3
        rw [if_neg (show ¬ mnr 1 = false by decide)] at HC
        have c0 := HA4.o.cell (i := 0) rfl
        by_cases ht1 : st < 100
        · have HSf := Ho (show sto st = false by unfold sto; rw [decide_eq_false (show ¬ 100 ≤ st by omega)]; rfl)
          have HE := Ho (show rv = .error 11 by rw [HRv.o, ← HC.o, if_pos HSf.o]; rfl)
          go_wp2
          go_ret2
          rw [HE.o]
          exact ⟨rfl, HU4.o⟩
        · by_cases ht2 : 599 < st
          · have HSf := Ho (show sto st = false by unfold sto; rw [decide_eq_false (show ¬ st ≤ 599 by omega), Bool.and_false])
            have HE := Ho (show rv = .error 11 by rw [HRv.o, ← HC.o, if_pos HSf.o]; rfl)
            go_wp2
            go_ret2
            rw [HE.o]
            exact ⟨rfl, HU4.o⟩
          · have HSt := Ho (show sto st = true by unfold sto; rw [decide_eq_true (show 100 ≤ st by omega), decide_eq_true (show st ≤ 599 by omega)]; rfl)
            rw [if_neg (by rw [HSt.o]; simp)] at HC
            go_wp2_with fail
            refine (HCf.o _ _ _ HF4.o).mono ?_
            rintro e w8 ⟨rfl, h9⟩
            have HU8 := Ho (HU4.o.trans h9)
            have HA8 := Ho (HA4.o.up h9)
            have HF8 := Ho (HF4.o.up h9)
            clear h9
            dsimp only
            clear c0
            cases hcf : ckf F with
            | some k =>
             have hkz := nums_ne (ckf_lt hcf)
             have HE := Ho (show rv = .error k by rw [HRv.o, ← HC.o, hcf]; rfl)
             clear hcf
             rw [show ckN (some k) = nums k from rfl]
             go_wp2
             go_ret2
             rw [HE.o]
             exact ⟨rfl, HU8.o⟩
            | none =>
             rw [hcf] at HC
             rw [show ckN none = 0 from rfl]
             clear hcf
             have c3 := HA8.o.cell (i := 3) rfl
             by_cases hbl : 1048576 < nb
             · have hblz : (1048576 : Int) < (nb : Int) := by omega
               have HE := Ho (show rv = .error 7 by rw [HRv.o, ← HC.o, if_pos hbl]; rfl)
               go_wp2
               go_ret2
               rw [HE.o]
               exact ⟨rfl, HU8.o⟩
             · have hblz : ¬ (1048576 : Int) < (nb : Int) := by omega
               have HB0 := Ho (show ¬ (0 < nb ∧ bdl st = true) by rw [HNb.o]; simp)
               have HNo := Ho (raS_no HSt.o (show mnr 1 = true by decide)).2
               go_wp2
               clear c3
               have HUd := Ho HU8.o.drew
               have HAd := Ho (HA8.o.up (Up.refl _).drew)
               have HFd := Ho (HF8.o.up (Up.refl _).drew)
               refine wp_region_held_drew (S := fun w2 => At w2 w.heap.size 51 [.int .i64 st, .int .i64 1, .slice a fs.length c, .slice ab nb cb', .bool cl] ∧ Up w w2) (by kernel_rfl) ⟨HAd.o, HUd.o⟩ (fun hS => ?_)
               refine tN 0 (some 57) (.fieldAddr 51 (.tmp 1) 1) 0 (.pointer (some ⟨w.heap.size, 1, none⟩)) hS ?_
               simp only [pA, pB, pC, pD]
               refine tK 1 (some 58) (.load 3 (.tmp 57)) 3 (.int .i64 1) hS ?_ ?_
               · intro _ _ w5 hSw
                 have h0 := hSw.1.cell (i := 1) rfl
                 clear hSw hS
                 go_simp
               simp only [pA, pB, pC, pD]
               refine tN 5 (some 62) (.fieldAddr 51 (.tmp 1) 0) 0 (.pointer (some ⟨w.heap.size, 0, none⟩)) hS ?_
               simp only [pA, pB, pC, pD]
               refine tK 6 (some 63) (.load 3 (.tmp 62)) 3 (.int .i64 st) hS ?_ ?_
               · intro _ _ w5 hSw
                 have h0 := hSw.1.cell (i := 0) rfl
                 clear hSw hS
                 go_simp
               simp only [pA, pB, pC, pD]
               refine tN 10 (some 67) (.fieldAddr 51 (.tmp 1) 0) 0 (.pointer (some ⟨w.heap.size, 0, none⟩)) hS ?_
               simp only [pA, pB, pC, pD]
               refine tK 11 (some 68) (.load 3 (.tmp 67)) 3 (.int .i64 st) hS ?_ ?_
               · intro _ _ w5 hSw
                 have h0 := hSw.1.cell (i := 0) rfl
                 clear hSw hS
                 go_simp
               simp only [pA, pB, pC, pD]
               refine rD 2 (some 59) (.call ⟨.value (.func 31), #[.tmp 58], #[2]⟩) 9 fun _ _ K hK => ?_
               rw [if_pos (by kernel_rfl)]
               go_simp
               refine (HFm.o w8.drew).mono ?_
               rintro e w10 ⟨rfl, h9⟩
               have HU10 := Ho (HUd.o.trans h9)
               have HA10 := Ho (HAd.o.up h9)
               have HF10 := Ho (HFd.o.up h9)
               clear h9 hS
               dsimp only
               refine hK.out _ _ ⟨HA10.o, HU10.o⟩ (fun hS => ?_)
               clear hK K
               refine tK 3 (some 60) (.binOp .add 9 (.const (.string { data := #[72, 84, 84, 80, 47, 49, 46] })) (.tmp 59) 9) 9 (.string ((⟨#[72, 84, 84, 80, 47, 49, 46]⟩ : ByteArray) ++ vt)) hS ?_ ?_
               · intro _ _ w5 hSw
                 clear hSw hS
                 have hvz := HVz.o
                 have hsz := HSz.o
                 have hrz := HRz.o
                 go_simp
               simp only [Act.put, pB, pC, pD]
               refine tK 4 (some 61) (.binOp .add 9 (.tmp 60) (.const (.string { data := #[32] })) 9) 9 (.string ((⟨#[72, 84, 84, 80, 47, 49, 46]⟩ : ByteArray) ++ vt ++ (⟨#[32]⟩ : ByteArray))) hS ?_ ?_
               · intro _ _ w5 hSw
                 clear hSw hS
                 have hvz := HVz.o
                 have hsz := HSz.o
                 have hrz := HRz.o
                 go_simp
               simp only [pA, pB, pC, pD]
               refine rD 7 (some 64) (.call ⟨.value (.func 31), #[.tmp 63], #[2]⟩) 9 fun _ _ K hK => ?_
               rw [if_pos (by kernel_rfl)]
               go_simp
               refine (HFs.o w10).mono ?_
               rintro e w11 ⟨rfl, h9⟩
               have HU11 := Ho (HU10.o.trans h9)
               have HA11 := Ho (HA10.o.up h9)
               have HF11 := Ho (HF10.o.up h9)
               clear h9 hS
               dsimp only
               refine hK.out _ _ ⟨HA11.o, HU11.o⟩ (fun hS => ?_)
               clear hK K
               refine tK 8 (some 65) (.binOp .add 9 (.tmp 61) (.tmp 64) 9) 9 (.string ((⟨#[72, 84, 84, 80, 47, 49, 46]⟩ : ByteArray) ++ vt ++ (⟨#[32]⟩ : ByteArray) ++ sx)) hS ?_ ?_
               · intro _ _ w5 hSw
                 clear hSw hS
                 have hvz := HVz.o
                 have hsz := HSz.o
                 have hrz := HRz.o
                 go_simp
               simp only [Act.put, pB, pC, pD]
               refine tK 9 (some 66) (.binOp .add 9 (.tmp 65) (.const (.string { data := #[32] })) 9) 9 (.string ((⟨#[72, 84, 84, 80, 47, 49, 46]⟩ : ByteArray) ++ vt ++ (⟨#[32]⟩ : ByteArray) ++ sx ++ (⟨#[32]⟩ : ByteArray))) hS ?_ ?_
               · intro _ _ w5 hSw
                 clear hSw hS
                 have hvz := HVz.o
                 have hsz := HSz.o
                 have hrz := HRz.o
                 go_simp
               simp only [pA, pB, pC, pD]
               refine rD 12 (some 69) (.call ⟨.value (.func 46), #[.tmp 68], #[3]⟩) 9 fun _ _ K hK => ?_
               rw [if_pos (by kernel_rfl)]
               go_simp
               refine (HRr.o w11 HU11.o).mono ?_
               rintro e w12 ⟨rfl, h9⟩
               have HU12 := Ho (HU11.o.trans h9)
               have HA12 := Ho (HA11.o.up h9)
               have HF12 := Ho (HF11.o.up h9)
               clear h9 hS
               dsimp only
               refine hK.out _ _ ⟨HA12.o, HU12.o⟩ (fun hS => ?_)
               clear hK K
               refine tK 13 (some 70) (.binOp .add 9 (.tmp 66) (.tmp 69) 9) 9 (.string ((⟨#[72, 84, 84, 80, 47, 49, 46]⟩ : ByteArray) ++ vt ++ (⟨#[32]⟩ : ByteArray) ++ sx ++ (⟨#[32]⟩ : ByteArray) ++ rx)) hS ?_ ?_
               · intro _ _ w5 hSw
                 clear hSw hS
                 have hvz := HVz.o
                 have hsz := HSz.o
                 have hrz := HRz.o
                 go_simp
               simp only [Act.put, pB, pC, pD]
               refine tN 14 (some 8) (.assign (.tmp 70)) 9 (.string ((⟨#[72, 84, 84, 80, 47, 49, 46]⟩ : ByteArray) ++ vt ++ (⟨#[32]⟩ : ByteArray) ++ sx ++ (⟨#[32]⟩ : ByteArray) ++ rx)) hS ?_
               simp only [pA, pB, pC, pD]
               clear hS
               refine wpAnyH_done (by kernel_rfl) ?_ _
               generalize (⟨#[72, 84, 84, 80, 47, 49, 46]⟩ : ByteArray) ++ vt ++ (⟨#[32]⟩ : ByteArray) ++ sx ++ (⟨#[32]⟩ : ByteArray) ++ rx = fst at HSd HSs ⊢
               have hbl2 : bd.length ≤ 1048576 := by have := HBn.o; omega
               have hfl : fst.size ≤ 1048576 := by rw [HSs.o]; exact Nat.le_trans HNo.o (by decide)
               have c3 := HA12.o.cell (i := 3) rfl
               go_wp2_with fail
               refine (HLd.o fst _ _ _ HF12.o (HB.o.up HU12.o) hfl (by omega) hbl2).mono ?_
               rintro e w13 ⟨⟨a8, c8, rfl, hO8⟩, h9⟩
               have HU13 := Ho (HU12.o.trans h9)
               have HO8 := Ho hO8.o
               clear h9 hO8
               rw [HSd.o] at HO8 ⊢
               dsimp only
               have HE := Ho (show rv = .ok (prt (raS st 1) F bd) by rw [HRv.o, ← HC.o, if_neg hbl, if_neg HB0.o]; rfl)
               go_wp2
               go_ret2
               rw [HE.o]
               exact ⟨⟨a8, c8, rfl, Ho HO8.o⟩, HU13.o⟩
      · have q0 : (mi == 0) = false := beq_eq_false_iff_ne.2 hm2
        have q1 : (mi == 1) = false := beq_eq_false_iff_ne.2 hm3
        have q2 : (mi != 0) = true := by rw [bne, q0]; rfl
        have q3 : (mi != 1) = true := by rw [bne, q1]; rfl
        have HMf := Ho (show mnr mi = false by rw [mnr_eq, q0, q1]; rfl)
        have HE := Ho (show rv = .error 4 by rw [HRv.o, ← HC.o, if_pos HMf.o]; rfl)
        go_wp2
        go_ret2
        rw [HE.o]
        exact ⟨rfl, HU4.o⟩
end Go.Proofs.YtkaoalcffgnfeaaGreatDoor
