import Derived.Test.YtkaoalcffgnfeaaGreatDoorJe
import Derived.Test.YtkaoalcffgnfeaaGreatDoorJb
import Derived.Test.YtkaoalcffgnfeaaGreatDoorJa
namespace Go.Proofs.YtkaoalcffgnfeaaGreatDoor
open Go.RowKit Go.Shelf TextNum
/-- why a response can't be printed -/
def ckr (st mi : Int) (fs : List FD) (nb : Nat) : Option Nat :=
  if 16384 < szs fs then some 1 else if mnr mi = false then some 4 else if sto st = false then some 11 else
    match ckf fs with
    | some k => some k
    | none => if 1048576 < nb then some 7 else if 0 < nb ∧ bdl st = true then some 7 else none
def raF (st : Int) (fs : List FD) (n : Nat) : List FD := if bdl st = true then pfs fs else pfs fs ++ [lnf n]
def raS (st mi : Int) : List UInt8 := vtx mi ++ [32] ++ Go.Lib.itoa st ++ [32] ++ rsn st
def raQ (st mi : Int) (fs : List FD) (bd : List UInt8) : Er (List UInt8) := match ckr st mi (raF st fs bd.length) bd.length with
  | some k => .error k
  | none => .ok (prt (raS st mi) (raF st fs bd.length) bd)
theorem st_facts : ∀ k : Nat, k < 600 → 100 ≤ k → (10 : UInt8) ∉ Go.Lib.itoa (k : Int) ∧ (10 : UInt8) ∉ rsn (k : Int) ∧ (rsn (k : Int)).length ≤ 64 ∧ (Go.Lib.itoa (k : Int)).length = 3 := by decide +kernel
theorem sto_nat {st : Int} (h : sto st = true) : ∃ k : Nat, st = (k : Int) ∧ k < 600 ∧ 100 ≤ k := by
  unfold sto at h
  rw [Bool.and_eq_true, decide_eq_true_eq, decide_eq_true_eq] at h
  exact ⟨st.toNat, by omega, by omega, by omega⟩
theorem vtx_32 {mi : Int} (h : mnr mi = true) : (32 : UInt8) ∉ vtx mi ∧ (vtx mi).length = 8 := by
  rcases mnr_or h with rfl | rfl
  · rw [show vtx 0 = [72, 84, 84, 80, 47, 49, 46, 48] by decide +kernel]
    exact ⟨by decide +kernel, rfl⟩
  · rw [show vtx 1 = [72, 84, 84, 80, 47, 49, 46, 49] by decide +kernel]
    exact ⟨by decide +kernel, rfl⟩
theorem raS_no {st mi : Int} (hs : sto st = true) (hi : mnr mi = true) : (10 : UInt8) ∉ raS st mi ∧ (raS st mi).length ≤ 100 := by
  obtain ⟨k, rfl, hj1, hj2⟩ := sto_nat hs
  obtain ⟨f5, f6, f7, f8⟩ := st_facts k hj1 hj2
  obtain ⟨_, _, h3⟩ := vtx_facts hi
  obtain ⟨_, h4⟩ := vtx_32 hi
  refine ⟨?_, ?_⟩
  · unfold raS
    simp only [List.mem_append, List.mem_cons, List.not_mem_nil, or_false]
    rintro ((((h | h) | h) | h) | h)
    · exact h3 h
    · revert h; decide
    · exact f5 h
    · revert h; decide
    · exact f6 h
  · unfold raS
    simp only [List.length_append, List.length_cons, List.length_nil]
    omega
theorem ckr_lt {st mi : Int} {fs : List FD} {nb k : Nat} (h : ckr st mi fs nb = some k) : k < 12 := by
  unfold ckr at h
  repeat' split at h
  all_goals first
    | (cases h; done)
    | (injection h with h; subst h; decide)
    | (injection h with h; subst h; exact ckf_lt (by assumption))
theorem ckr_ok {st mi : Int} {fs : List FD} {nb : Nat} (h : ckr st mi fs nb = none) : szs fs ≤ 16384 ∧ mnr mi = true ∧ sto st = true ∧ ckf fs = none ∧ nb ≤ 1048576 ∧ (bdl st = true → nb = 0) := by
  unfold ckr at h
  repeat' split at h
  all_goals first
    | (cases h; done)
    | skip
  rename_i h1 h2 h3 _ h4 h5 h6
  refine ⟨by omega, by simpa using h2, by simpa using h3, h4, by omega, fun hb => ?_⟩
  rcases Nat.eq_zero_or_pos nb with h | h
  · exact h
  · exact absurd ⟨h, hb⟩ h6
theorem raQ_er {st mi : Int} {fs : List FD} {bd : List UInt8} {k : Nat} (h : raQ st mi fs bd = .error k) : (nums k != 0) = true := by
  have hk : k < 12 := by
    unfold raQ at h
    cases hc : ckr st mi (raF st fs bd.length) bd.length with
    | some j => rw [hc] at h; injection h with h; rw [← h]; exact ckr_lt hc
    | none => rw [hc] at h; cases h
  have : ∀ k, k < 12 → (nums k != 0) = true := by decide +kernel
  exact this k hk
theorem raQ_ok {st mi : Int} {fs : List FD} {bd l : List UInt8} (h : raQ st mi fs bd = .ok l) : ckr st mi (raF st fs bd.length) bd.length = none ∧ l = prt (raS st mi) (raF st fs bd.length) bd := by
  unfold raQ at h
  cases hc : ckr st mi (raF st fs bd.length) bd.length with
  | some j => rw [hc] at h; cases h
  | none => rw [hc] at h; injection h with h; exact ⟨rfl, h.symm⟩
theorem szs_raF (st : Int) (fs : List FD) (n : Nat) (h : n ≤ 1099511627776) : szs (raF st fs n) ≤ szs fs + 128 := by
  have h1 := szs_pfs fs
  unfold raF
  split
  · omega
  · rw [szs_snoc]
    have h2 : szf (lnf n) ≤ 128 := by
      have h3 := itoa_len (n : Int) (by omega) (by omega)
      have h4 : (⟨(Go.Lib.itoa (n : Int)).toArray⟩ : ByteArray).size = (Go.Lib.itoa (n : Int)).length := by simp [ByteArray.size]
      have h5 : ctlN.size = 14 := rfl
      unfold szf lnf
      dsimp only
      omega
    omega
end Go.Proofs.YtkaoalcffgnfeaaGreatDoor
namespace Go.Proofs.YtkaoalcffgnfeaaGreatDoor
open Go.RowKit Go.Shelf TextNum
set_option maxRecDepth 100000 in
set_option maxHeartbeats 4000000 in
theorem checkResponse_walk (ad : Nat → Addr) (st mi : Int) (af : Option Addr) (nf cf : Nat) (ab : Option Addr) (nb cb' : Nat) (cl : Bool) (a : Option Addr) (fs : List FD) (c : Nat) (w : World) (h : FdL w a fs c) (hG : GW w ad)
    (hl : szs fs ≤ 1099511627776) (hnb : nb ≤ 1099511627776) :
    Calls Tryz.prog 48 #[.agg #[.int .i64 st, .int .i64 mi, .slice af nf cf, .slice ab nb cb', .bool cl], .slice a fs.length c] w fun e w' => e = .returned (eoV ad (ckr st mi fs nb)) ∧ Up w w' := by
  have HF := Hid.of h
  have HW := Hid.of hG
  have hcap := h.cap
  have hsl := szs_len fs
  clear h hG
  have HA0 := Hid.of (at_new w 55 [.int .i64 st, .int .i64 mi, .slice af nf cf, .slice ab nb cb', .bool cl])
  have HU0 := Hid.of ((Up.refl w).alloc (.cells [.int .i64 st, .int .i64 mi, .slice af nf cf, .slice ab nb cb', .bool cl].toArray 55))
  obtain ⟨rv, hrv⟩ : ∃ rv, eoV ad (ckr st mi fs nb) = rv := ⟨_, rfl⟩
  rw [hrv]
  unfold ckr at hrv
  have HR := Hid.of hrv
  clear hrv
  obtain ⟨z, hz⟩ : ∃ z, szs fs = z := ⟨_, rfl⟩
  have HSz := Hid.of (fun w (hF : FdL w a fs c) => sizeOf_walk a fs c w hF hl)
  have HCf := Hid.of (fun w (hF : FdL w a fs c) (hE : GE w ad) => checkFields_walk ad a fs c w hF hl hE)
  rw [hz] at HR hl hsl HSz
  clear hz
  go_enter Tryz.func48, Tryz.ntmps48
  go_wp2_with fail
  obtain ⟨w1, hw1⟩ : ∃ w1, w.alloc (.cells [.int .i64 st, .int .i64 mi, .slice af nf cf, .slice ab nb cb', .bool cl].toArray 55) = w1 := ⟨_, rfl⟩
  rw [hw1] at HA0 HU0
  change Calls _ _ _ (w.alloc (.cells [.int .i64 st, .int .i64 mi, .slice af nf cf, .slice ab nb cb', .bool cl].toArray 55)) _
  rw [hw1]
  clear hw1
  refine (HSz.out w1 (HF.out.up HU0.out)).mono ?_
  rintro e w2 ⟨rfl, h9⟩
  have HU2 := Hid.of (HU0.out.trans h9)
  have HA2 := Hid.of (HA0.out.up h9)
  clear h9
  dsimp only
  by_cases h2 : 16384 < z
  · have h2z : (16384 : Int) < (z : Int) := by omega
    have HE := Hid.of (show rv = ev (ad 1) by rw [← HR.out, if_pos h2]; rfl)
    have hgl : w2.cell? ⟨2, 0, none⟩ = _ := (HW.out.up HU2.out).ge.gl 1 (by decide)
    go_wp2
    go_ret
    rw [HE.out]
    exact ⟨rfl, HU2.out⟩
  · have h2z : ¬ (16384 : Int) < (z : Int) := by omega
    rw [if_neg h2] at HR
    have c1 := HA2.out.cell (i := 1) rfl
    go_wp2_with fail
    refine (isMinor_walk mi w2).mono ?_
    rintro e w8 ⟨rfl, h9⟩
    obtain rfl := h9.symm
    clear h9
    dsimp only
    cases hmn : mnr mi with
    | false =>
      have HE := Hid.of (show rv = ev (ad 4) by rw [← HR.out, if_pos hmn]; rfl)
      have hgl : w2.cell? ⟨5, 0, none⟩ = _ := (HW.out.up HU2.out).ge.gl 4 (by decide)
      go_wp2
      go_ret
      rw [HE.out]
      exact ⟨rfl, HU2.out⟩
    | true =>
      rw [if_neg (by rw [hmn]; simp)] at HR
      clear hmn c1
      have c0 := HA2.out.cell (i := 0) rfl
      go_wp2_with fail
      refine (isStatus_walk st w2).mono ?_
      rintro e w8 ⟨rfl, h9⟩
      obtain rfl := h9.symm
      clear h9
      dsimp only
      cases hst : sto st with
      | false =>
        have HE := Hid.of (show rv = ev (ad 11) by rw [← HR.out, if_pos hst]; rfl)
        have hgl : w2.cell? ⟨9, 0, none⟩ = _ := (HW.out.up HU2.out).ge.gl 11 (by decide)
        go_wp2
        go_ret
        rw [HE.out]
        exact ⟨rfl, HU2.out⟩
      | true =>
        rw [if_neg (by rw [hst]; simp)] at HR
        clear hst c0
        go_wp2_with fail
        refine (HCf.out w2 (HF.out.up HU2.out) (HW.out.up HU2.out).ge).mono ?_
        rintro e w3 ⟨rfl, h9⟩
        have HU3 := Hid.of (HU2.out.trans h9)
        have HA3 := Hid.of (HA2.out.up h9)
        clear h9
        dsimp only
        cases hcf : ckf fs with
        | some k =>
          have HE := Hid.of (show rv = ev (ad k) by rw [← HR.out, hcf]; rfl)
          rw [show eoV ad (some k) = ev (ad k) from rfl]
          have hne := ev_neq ad k
          go_wp2
          go_ret
          rw [HE.out]
          exact ⟨rfl, HU3.out⟩
        | none =>
          rw [hcf] at HR
          dsimp only at HR
          rw [show eoV ad none = Value.nilIface from rfl]
          clear hcf
          have c3 := HA3.out.cell (i := 3) rfl
          have c0 := HA3.out.cell (i := 0) rfl
          by_cases hbl : 1048576 < nb
          · have hblz : (1048576 : Int) < (nb : Int) := by omega
            have HE := Hid.of (show rv = ev (ad 7) by rw [← HR.out, if_pos hbl]; rfl)
            have hgl : w3.cell? ⟨6, 0, none⟩ = _ := (HW.out.up HU3.out).ge.gl 7 (by decide)
            go_wp2
            go_ret
            rw [HE.out]
            exact ⟨rfl, HU3.out⟩
          · have hblz : ¬ (1048576 : Int) < (nb : Int) := by omega
            rw [if_neg hbl] at HR
            clear hbl
            by_cases hb0 : 0 < nb
            · have hb0z : (0 : Int) < (nb : Int) := by omega
              go_wp2_with fail
              refine (isBodiless_walk st w3).mono ?_
              rintro e w9 ⟨rfl, h9⟩
              obtain rfl := h9.symm
              clear h9
              dsimp only
              cases hbd : bdl st with
              | true =>
                have HE := Hid.of (show rv = ev (ad 7) by rw [← HR.out, if_pos ⟨hb0, hbd⟩]; rfl)
                have hgl : w3.cell? ⟨6, 0, none⟩ = _ := (HW.out.up HU3.out).ge.gl 7 (by decide)
                go_wp2
                go_ret
                rw [HE.out]
                exact ⟨rfl, HU3.out⟩
              | false =>
                have HE := Hid.of (show rv = .nilIface by rw [← HR.out, if_neg (fun h => by rw [hbd] at h; cases h.2)]; rfl)
                go_wp2
                go_ret
                rw [HE.out]
                exact ⟨rfl, HU3.out⟩
            · have hb0z : ¬ (0 : Int) < (nb : Int) := by omega
              have HE := Hid.of (show rv = .nilIface by rw [← HR.out, if_neg (fun h => hb0 h.1)]; rfl)
              go_wp2
              go_ret
              rw [HE.out]
              exact ⟨rfl, HU3.out⟩
end Go.Proofs.YtkaoalcffgnfeaaGreatDoor
namespace Go.Proofs.YtkaoalcffgnfeaaGreatDoor
open Go.RowKit Go.Shelf TextNum
set_option maxRecDepth 100000 in
set_option maxHeartbeats 4000000 in
theorem FormatResponse_walk (ad : Nat → Addr) (st mi : Int) (a : Option Addr) (fs : List FD) (c : Nat) (ab : Option Addr) (nb cb' : Nat) (bd : List UInt8) (cl : Bool) (w : World) (h : FdL w a fs c) (hb : Sb w (.slice ab nb cb') bd) (hG : GW w ad) (hRs : w.rangeAt 10 0 rsC)
    (hs0 : -9223372036854775808 ≤ st) (hs1 : st ≤ 9223372036854775807) (hm0 : -9223372036854775808 ≤ mi) (hm1 : mi ≤ 9223372036854775807) (hl : szs fs ≤ 1099511627000) (hnb : nb ≤ 1099511627776) :
    Calls Tryz.prog 16 #[.agg #[.int .i64 st, .int .i64 mi, .slice a fs.length c, .slice ab nb cb', .bool cl]] w fun e w' => FrR w w' e (raQ st mi fs bd) ∧ Up w w' := by
  have HF := Hid.of h
  have HW := Hid.of hG
  have HB := Hid.of hb
  have HRs := Hid.of hRs
  have hcap := h.cap
  obtain ⟨hbn, hbc, hbm⟩ := hb.len
  unfold maxLen at hbm
  have HBn := Hid.of hbn
  clear h hG hb hbn hRs
  have HVz0 : (⟨(vtx mi).toArray⟩ : ByteArray).size = (vtx mi).length := by simp [ByteArray.size]
  have HVx := Hid.of (show vs (vtx mi) = .string ⟨(vtx mi).toArray⟩ from rfl)
  have HVd0 : (⟨(vtx mi).toArray⟩ : ByteArray).data.toList = vtx mi := rfl
  generalize (⟨(vtx mi).toArray⟩ : ByteArray) = vt at HVx HVz0 HVd0
  have HVd := Hid.of HVd0
  obtain ⟨vl, hVn⟩ : ∃ vl, (vtx mi).length = vl := ⟨_, rfl⟩
  rw [hVn] at HVz0
  have HVz := Hid.of HVz0
  have HVn := Hid.of hVn
  clear HVz0 HVd0 hVn
  have HSz0 : (⟨(Go.Lib.itoa st).toArray⟩ : ByteArray).size = (Go.Lib.itoa st).length := by simp [ByteArray.size]
  have HSx := Hid.of (show vs (Go.Lib.itoa st) = .string ⟨(Go.Lib.itoa st).toArray⟩ from rfl)
  have HSd0 : (⟨(Go.Lib.itoa st).toArray⟩ : ByteArray).data.toList = Go.Lib.itoa st := rfl
  generalize (⟨(Go.Lib.itoa st).toArray⟩ : ByteArray) = sx at HSx HSz0 HSd0
  have HSd := Hid.of HSd0
  obtain ⟨sl, hSn⟩ : ∃ sl, (Go.Lib.itoa st).length = sl := ⟨_, rfl⟩
  rw [hSn] at HSz0
  have HSz := Hid.of HSz0
  have HSn := Hid.of hSn
  clear HSz0 HSd0 hSn
  have HRz0 : (⟨(rsn st).toArray⟩ : ByteArray).size = (rsn st).length := by simp [ByteArray.size]
  have HRx := Hid.of (show vs (rsn st) = .string ⟨(rsn st).toArray⟩ from rfl)
  have HRd0 : (⟨(rsn st).toArray⟩ : ByteArray).data.toList = rsn st := rfl
  generalize (⟨(rsn st).toArray⟩ : ByteArray) = rx at HRx HRz0 HRd0
  have HRd := Hid.of HRd0
  obtain ⟨rl, hRn⟩ : ∃ rl, (rsn st).length = rl := ⟨_, rfl⟩
  rw [hRn] at HRz0
  have HRz := Hid.of HRz0
  have HRn := Hid.of hRn
  clear HRz0 HRd0 hRn
  have hsl := szs_len fs
  have hpl := pfs_len fs
  have HZf := Hid.of (szs_raF st fs nb hnb)
  have HA0 := Hid.of (at_new w 55 [.int .i64 st, .int .i64 mi, .slice a fs.length c, .slice ab nb cb', .bool cl])
  have HU0 := Hid.of ((Up.refl w).alloc (.cells [.int .i64 st, .int .i64 mi, .slice a fs.length c, .slice ab nb cb', .bool cl].toArray 55))
  obtain ⟨rv, hrv⟩ : ∃ rv, raQ st mi fs bd = rv := ⟨_, rfl⟩
  have HR := Hid.of hrv
  rw [hrv]
  clear hrv
  go_enter Tryz.func16, Tryz.ntmps16
  go_wp2_with (with_reducible show wpList _ _ _ ({ dst := _, op := Op.load 34 _, type := _, pos := _, after := _, guard := _ } :: _) _ _; refine Shut.out ?_)
  show wpList _ _ _ _ _ _
  obtain ⟨w1, hw1⟩ : ∃ w1, w.alloc (.cells [.int .i64 st, .int .i64 mi, .slice a fs.length c, .slice ab nb cb', .bool cl].toArray 55) = w1 := ⟨_, rfl⟩
  have HS1 := Hid.of (show w.heap.size < w1.heap.size by rw [← hw1, alloc_size]; omega)
  rw [hw1] at HA0 HU0
  change wpList _ _ _ _ _ (w.alloc (.cells [.int .i64 st, .int .i64 mi, .slice a fs.length c, .slice ab nb cb', .bool cl].toArray 55))
  rw [hw1]
  clear hw1
  have c3 := HA0.out.cell (i := 2) rfl
  go_wp2_with fail
  refine (printedFields_walk a fs c w1 (HF.out.up HU0.out) (by omega) (HW.out.up HU0.out).kd).mono ?_
  rintro e w2 ⟨⟨a2, c2, rfl, hO2⟩, h9⟩
  have HU2 := Hid.of (HU0.out.trans h9)
  have HA2 := Hid.of (HA0.out.up h9)
  have HO2 := Hid.of hO2.out
  have HW1 := Hid.of h9
  clear h9 hO2 c3
  dsimp only
  have c0 := HA2.out.cell (i := 0) rfl
  go_wp2_with fail
  refine (isBodiless_walk st w2).mono ?_
  rintro e w3 ⟨rfl, h9⟩
  obtain rfl := h9.symm
  clear h9 c0
  dsimp only
  cases hb0 : bdl st with
  | false =>
    have HFr0 : raF st fs nb = pfs fs ++ [lnf nb] := by unfold raF; rw [if_neg (by rw [hb0]; simp)]
    clear hb0
    have c4 := HA2.out.cell (i := 3) rfl
    obtain ⟨np, hnp⟩ : ∃ np, (pfs fs).length = np := ⟨_, rfl⟩
    have HNp := Hid.of hnp
    rw [hnp] at hpl ⊢
    clear hnp
    go_wp2_with fail
    refine (lengthOf_walk ab nb cb' hnb w2 (HW.out.up HU2.out).gn).mono ?_
    rintro e w3 ⟨rfl, h9⟩
    have HU3 := Hid.of (HU2.out.trans h9)
    have HA3 := Hid.of (HA2.out.up h9)
    have Hu3 := Hid.of h9
    clear h9
    dsimp only
    go_wp2_with (with_reducible show wpList _ _ _ ({ dst := _, op := Op.call { callee := Callee.builtin Builtin.append, args := _, argTypes := _ }, type := _, pos := _, after := _, guard := _ } :: _) _ _; refine Shut.out ?_)
    show wpList _ _ _ _ _ _
    refine wpList_appFd (w := w3) (N := w1.heap.size) rfl _ _ rfl a2 c2 (pfs fs) (lnf nb) HNp.out rfl rfl (ow_up HO2.out Hu3.out) (Nat.le_trans HW1.out.size Hu3.out.size) (by omega) ?_
    intro a4 c4' w4 o4 u4 g4
    have HA4 := Hid.of (HA3.out.by g4 (fun e => by
      have h1 := ow_up HO2.out Hu3.out
      unfold FdO at h1
      rw [HNp.out] at h1
      have h2 := (World.ownsRow.lt h1 w.heap.size e).1
      have h3 := HS1.out
      omega))
    have hu4 := u4 w1 (HW1.out.trans Hu3.out) (Nat.le_refl _)
    have HU4 := Hid.of (HU0.out.trans hu4)
    have hZ := HZf.out
    rw [HFr0] at hZ
    have HFr := Hid.of HFr0
    have HNF0 : (pfs fs ++ [lnf nb]).length = np + 1 := by rw [List.length_append, HNp.out]; rfl
    have HF4 := Hid.of o4.fdl
    clear o4 u4 g4 hu4 HFr0 c4
    generalize pfs fs ++ [lnf nb] = F at HF4 HFr HNF0 hZ
    rw [← HNF0]
    clear HNF0
    have hFz : szs F ≤ 1099511627776 := by omega
    clear hZ
    simp only [Act.put, List.setIfInBounds_toArray, List.set_cons_zero, List.set_cons_succ]
    obtain ⟨nF, hnF⟩ : ∃ nF, F.length = nF := ⟨_, rfl⟩
    have HNF := Hid.of hnF
    have hnFc := HF4.out.cap
    have HCk := Hid.of (checkResponse_walk ad st mi a fs.length c ab nb cb' cl a4 F c4' w4 HF4.out (HW.out.up HU4.out) hFz hnb)
    have HPm := Hid.of (fun (st : ByteArray) (w7 : World) (h1 : FdL w7 a4 F c4') (h2 : Sb w7 (.slice ab nb cb') bd) h3 h4 h5 => printMessage_walk st a4 F c4' ab nb cb' bd w7 h1 h2 h3 h4 h5)
    rw [hnF] at HCk HPm hnFc ⊢
    clear hnF
    go_wp2_with (with_reducible show wpList _ _ _ ({ dst := _, op := Op.load 55 _, type := _, pos := _, after := _, guard := _ } :: _) _ _; refine Shut.out ?_)
    show wpList _ _ _ _ _ _
    refine wpList_load_mid rfl _ _ rfl w.heap.size 0 rfl [.int .i64 st, .int .i64 mi, .slice a fs.length c, .slice ab nb cb', .bool cl] _ HA4.out.range Tryz.underlying55 rfl (by kernel_rfl) ?_
    simp only [Act.put, List.setIfInBounds_toArray, List.set_cons_zero, List.set_cons_succ]
    go_wp2_with fail
    refine HCk.out.mono ?_
    rintro e w6 ⟨rfl, h9⟩
    have HU6 := Hid.of (HU4.out.trans h9)
    have HA6 := Hid.of (HA4.out.up h9)
    have HF6 := Hid.of (HF4.out.up h9)
    clear h9
    dsimp only
    cases hck : ckr st mi F nb with
    | some k =>
      have HE := Hid.of (show rv = .error k by rw [← HR.out]; unfold raQ; rw [← HBn.out, HFr.out, hck])
      have hk := ckr_lt hck
      rw [show eoV ad (some k) = ev (ad k) from rfl]
      have hne := ev_neq ad k
      clear hck
      go_wp2_with fail
      refine (numberOf_err ad k hk w6 (HW.out.up HU6.out).ge).mono ?_
      rintro e w7 ⟨rfl, h9⟩
      have HU7 := Hid.of (HU6.out.trans h9)
      clear h9
      dsimp only
      go_wp2
      go_ret2
      rw [HE.out]
      exact ⟨rfl, HU7.out⟩
    | none =>
      have HE := Hid.of (show rv = .ok (prt (raS st mi) F bd) by rw [← HR.out]; unfold raQ; rw [← HBn.out, HFr.out, hck])
      obtain ⟨hq1, hq2, hq3, hq4, hq5, hq6⟩ := ckr_ok hck
      rw [show eoV ad none = Value.nilIface from rfl]
      have HSt := Hid.of (show (vt ++ (⟨#[32]⟩ : ByteArray) ++ sx ++ (⟨#[32]⟩ : ByteArray) ++ rx).data.toList = raS st mi by rw [bat_app, bat_app, bat_app, bat_app]; unfold raS; rw [HVd.out, HSd.out, HRd.out])
      have hsz4 : (vt ++ (⟨#[32]⟩ : ByteArray) ++ sx ++ (⟨#[32]⟩ : ByteArray) ++ rx).size ≤ 1048576 := by
        rw [Go.Lib.size_eq, HSt.out]
        exact Nat.le_trans (raS_no hq3 hq2).2 (by decide)
      have hsm : vl ≤ 100 ∧ sl ≤ 100 ∧ rl ≤ 100 := by
        have h1 := (raS_no hq3 hq2).2
        have h2 := HVn.out
        have h3 := HSn.out
        have h4 := HRn.out
        unfold raS at h1
        simp only [List.length_append, List.length_cons, List.length_nil] at h1
        omega
      obtain ⟨hvl, hsl2, hrl⟩ := hsm
      have HPm := Hid.of (fun w7 h1 h2 => HPm.out (vt ++ (⟨#[32]⟩ : ByteArray) ++ sx ++ (⟨#[32]⟩ : ByteArray) ++ rx) w7 h1 h2 hsz4 (by omega) (by rw [← HBn.out]; exact hq5))
      rw [HSt.out] at HPm
      clear hsz4 HSt
      obtain ⟨L, hL⟩ : ∃ L, (prt (raS st mi) F bd).length = L := ⟨_, rfl⟩
      have HL := Hid.of hL
      rw [hL] at HPm
      clear hL hck
      have hl1 : ¬ 9223372036854775807 < vl + 1 := by omega
      have hl2 : ¬ 9223372036854775807 < vl + 1 + sl := by omega
      have hl3 : ¬ 9223372036854775807 < vl + 1 + sl + 1 := by omega
      have hl4 : ¬ 9223372036854775807 < vl + 1 + sl + 1 + rl := by omega
      go_wp2
      have HUd := Hid.of HU6.out.drew
      have HAd := Hid.of (HA6.out.up (Up.refl _).drew)
      have HFd := Hid.of (HF6.out.up (Up.refl _).drew)
      refine wp_region_held_drew (S := fun w2 => At w2 w.heap.size 55 [.int .i64 st, .int .i64 mi, .slice a fs.length c, .slice ab nb cb', .bool cl] ∧ GW w2 ad ∧ Up w w2) (by kernel_rfl) ⟨HAd.out, HW.out.up HUd.out, HUd.out⟩ (fun hS => ?_)
      refine wpAnyH_take (i := 0) (oi := { dst := some 26, op := Go.Op.fieldAddr 55 (Go.Operand.tmp 1) 1, type := 0, pos := "web.go:75", after := #[], guard := none }) (v := .pointer (some ⟨w.heap.size, 1, none⟩)) rfl (by kernel_rfl) (by kernel_rfl) (by kernel_rfl) (fun _ _ _ h => h) (Or.inl ⟨by kernel_rfl, ?_⟩) hS ?_
      · intro w5 hSw
        clear hSw hS
        go_simp
      simp only [Act.put, List.setIfInBounds_toArray, List.set_cons_zero, List.set_cons_succ]
      refine wpAnyH_take (i := 1) (oi := { dst := some 27, op := Go.Op.load 3 (Go.Operand.tmp 26), type := 3, pos := "web.go:75", after := #[{ on := 0, ground := Go.Ground.data }], guard := none }) (v := .int .i64 mi) rfl (by kernel_rfl) (by kernel_rfl) (by kernel_rfl) (fun _ _ _ h => h) (Or.inl ⟨by kernel_rfl, ?_⟩) hS ?_
      · intro w5 hSw
        have h0 := hSw.1.cell (i := 1) rfl
        clear hSw hS
        go_simp
      simp only [Act.put, List.setIfInBounds_toArray, List.set_cons_zero, List.set_cons_succ]
      refine wpAnyH_take (i := 4) (oi := { dst := some 30, op := Go.Op.fieldAddr 55 (Go.Operand.tmp 1) 0, type := 0, pos := "web.go:75", after := #[], guard := none }) (v := .pointer (some ⟨w.heap.size, 0, none⟩)) rfl (by kernel_rfl) (by kernel_rfl) (by kernel_rfl) (fun _ _ _ h => h) (Or.inl ⟨by kernel_rfl, ?_⟩) hS ?_
      · intro w5 hSw
        clear hSw hS
        go_simp
      simp only [Act.put, List.setIfInBounds_toArray, List.set_cons_zero, List.set_cons_succ]
      refine wpAnyH_take (i := 5) (oi := { dst := some 31, op := Go.Op.load 3 (Go.Operand.tmp 30), type := 3, pos := "web.go:75", after := #[{ on := 4, ground := Go.Ground.data }], guard := none }) (v := .int .i64 st) rfl (by kernel_rfl) (by kernel_rfl) (by kernel_rfl) (fun _ _ _ h => h) (Or.inl ⟨by kernel_rfl, ?_⟩) hS ?_
      · intro w5 hSw
        have h0 := hSw.1.cell (i := 0) rfl
        clear hSw hS
        go_simp
      simp only [Act.put, List.setIfInBounds_toArray, List.set_cons_zero, List.set_cons_succ]
      refine wpAnyH_take (i := 9) (oi := { dst := some 35, op := Go.Op.fieldAddr 55 (Go.Operand.tmp 1) 0, type := 0, pos := "web.go:75", after := #[], guard := none }) (v := .pointer (some ⟨w.heap.size, 0, none⟩)) rfl (by kernel_rfl) (by kernel_rfl) (by kernel_rfl) (fun _ _ _ h => h) (Or.inl ⟨by kernel_rfl, ?_⟩) hS ?_
      · intro w5 hSw
        clear hSw hS
        go_simp
      simp only [Act.put, List.setIfInBounds_toArray, List.set_cons_zero, List.set_cons_succ]
      refine wpAnyH_take (i := 10) (oi := { dst := some 36, op := Go.Op.load 3 (Go.Operand.tmp 35), type := 3, pos := "web.go:75", after := #[{ on := 9, ground := Go.Ground.data }], guard := none }) (v := .int .i64 st) rfl (by kernel_rfl) (by kernel_rfl) (by kernel_rfl) (fun _ _ _ h => h) (Or.inl ⟨by kernel_rfl, ?_⟩) hS ?_
      · intro w5 hSw
        have h0 := hSw.1.cell (i := 0) rfl
        clear hSw hS
        go_simp
      simp only [Act.put, List.setIfInBounds_toArray, List.set_cons_zero, List.set_cons_succ]
      refine wpAnyH_take (i := 13) (oi := { dst := some 39, op := Go.Op.move (Go.Operand.tmp 4), type := 34, pos := "web.go:75", after := #[], guard := none }) (v := .slice a4 nF c4') rfl (by kernel_rfl) (by kernel_rfl) (by kernel_rfl) (fun _ _ _ h => h) (Or.inl ⟨by kernel_rfl, ?_⟩) hS ?_
      · intro w5 hSw
        clear hSw hS
        go_simp
      simp only [Act.put, List.setIfInBounds_toArray, List.set_cons_zero, List.set_cons_succ]
      refine wpAnyH_take (i := 14) (oi := { dst := some 40, op := Go.Op.fieldAddr 55 (Go.Operand.tmp 1) 3, type := 0, pos := "web.go:75", after := #[], guard := none }) (v := .pointer (some ⟨w.heap.size, 3, none⟩)) rfl (by kernel_rfl) (by kernel_rfl) (by kernel_rfl) (fun _ _ _ h => h) (Or.inl ⟨by kernel_rfl, ?_⟩) hS ?_
      · intro w5 hSw
        clear hSw hS
        go_simp
      simp only [Act.put, List.setIfInBounds_toArray, List.set_cons_zero, List.set_cons_succ]
      refine wpAnyH_take (i := 15) (oi := { dst := some 41, op := Go.Op.load 23 (Go.Operand.tmp 40), type := 23, pos := "web.go:75", after := #[{ on := 14, ground := Go.Ground.data }], guard := none }) (v := .slice ab nb cb') rfl (by kernel_rfl) (by kernel_rfl) (by kernel_rfl) (fun _ _ _ h => h) (Or.inl ⟨by kernel_rfl, ?_⟩) hS ?_
      · intro w5 hSw
        have h0 := hSw.1.cell (i := 3) rfl
        clear hSw hS
        go_simp
      simp only [Act.put, List.setIfInBounds_toArray, List.set_cons_zero, List.set_cons_succ]
      refine wpAnyH_ready (rs := [2]) (by kernel_rfl) (by simp) ?_
      refine AllReadyH.cons (o := { dst := some 28, op := Go.Op.call { callee := Go.Callee.value (Go.Operand.func 44), args := #[Go.Operand.tmp 27], argTypes := #[3] }, type := 9, pos := "web.go:75", after := #[{ on := 1, ground := Go.Ground.data }], guard := none }) rfl (fun K hK => ?_) AllReadyH.nil
      rw [if_pos (by kernel_rfl)]
      go_simp
      refine (versionText_walk mi hm0 hm1 w6.drew (HW.out.up HUd.out).gn).mono ?_
      rintro e w7 ⟨rfl, h9⟩
      have HU7 := Hid.of (HUd.out.trans h9)
      have HA7 := Hid.of (HAd.out.up h9)
      have HF7 := Hid.of (HFd.out.up h9)
      clear h9 hS
      rw [HVx.out]
      dsimp only
      refine hK.out _ _ ⟨HA7.out, HW.out.up HU7.out, HU7.out⟩ (fun hS => ?_)
      clear hK K
      refine wpAnyH_take (i := 3) (oi := { dst := some 29, op := Go.Op.binOp Go.BinOp.add 9 (Go.Operand.tmp 28) (Go.Operand.const (Go.Value.string { data := #[32] })) 9, type := 9, pos := "web.go:75", after := #[{ on := 2, ground := Go.Ground.data }], guard := none }) (v := .string (vt ++ (⟨#[32]⟩ : ByteArray))) rfl (by kernel_rfl) (by kernel_rfl) (by kernel_rfl) (fun _ _ _ h => h) (Or.inl ⟨by kernel_rfl, ?_⟩) hS ?_
      · intro w5 hSw
        clear hSw hS
        have hvz := HVz.out
        have hsz := HSz.out
        have hrz := HRz.out
        go_simp
      simp only [Act.put, List.setIfInBounds_toArray, List.set_cons_zero, List.set_cons_succ]
      refine wpAnyH_ready (rs := [6]) (by kernel_rfl) (by simp) ?_
      refine AllReadyH.cons (o := { dst := some 32, op := Go.Op.call { callee := Go.Callee.value (Go.Operand.func 49), args := #[Go.Operand.tmp 31], argTypes := #[3] }, type := 9, pos := "web.go:75", after := #[{ on := 5, ground := Go.Ground.data }, { on := 2, ground := Go.Ground.chain }], guard := none }) rfl (fun K hK => ?_) AllReadyH.nil
      rw [if_pos (by kernel_rfl)]
      go_simp
      refine (statusText_walk st hs0 hs1 w7 (HW.out.up HU7.out).gn).mono ?_
      rintro e w8 ⟨rfl, h9⟩
      have HU8 := Hid.of (HU7.out.trans h9)
      have HA8 := Hid.of (HA7.out.up h9)
      have HF8 := Hid.of (HF7.out.up h9)
      clear h9 hS
      rw [HSx.out]
      dsimp only
      refine hK.out _ _ ⟨HA8.out, HW.out.up HU8.out, HU8.out⟩ (fun hS => ?_)
      clear hK K
      refine wpAnyH_take (i := 7) (oi := { dst := some 33, op := Go.Op.binOp Go.BinOp.add 9 (Go.Operand.tmp 29) (Go.Operand.tmp 32) 9, type := 9, pos := "web.go:75", after := #[{ on := 3, ground := Go.Ground.data }, { on := 6, ground := Go.Ground.data }], guard := none }) (v := .string (vt ++ (⟨#[32]⟩ : ByteArray) ++ sx)) rfl (by kernel_rfl) (by kernel_rfl) (by kernel_rfl) (fun _ _ _ h => h) (Or.inl ⟨by kernel_rfl, ?_⟩) hS ?_
      · intro w5 hSw
        clear hSw hS
        have hvz := HVz.out
        have hsz := HSz.out
        have hrz := HRz.out
        go_simp
      simp only [Act.put, List.setIfInBounds_toArray, List.set_cons_zero, List.set_cons_succ]
      refine wpAnyH_take (i := 8) (oi := { dst := some 34, op := Go.Op.binOp Go.BinOp.add 9 (Go.Operand.tmp 33) (Go.Operand.const (Go.Value.string { data := #[32] })) 9, type := 9, pos := "web.go:75", after := #[{ on := 7, ground := Go.Ground.data }], guard := none }) (v := .string (vt ++ (⟨#[32]⟩ : ByteArray) ++ sx ++ (⟨#[32]⟩ : ByteArray))) rfl (by kernel_rfl) (by kernel_rfl) (by kernel_rfl) (fun _ _ _ h => h) (Or.inl ⟨by kernel_rfl, ?_⟩) hS ?_
      · intro w5 hSw
        clear hSw hS
        have hvz := HVz.out
        have hsz := HSz.out
        have hrz := HRz.out
        go_simp
      simp only [Act.put, List.setIfInBounds_toArray, List.set_cons_zero, List.set_cons_succ]
      refine wpAnyH_ready (rs := [11]) (by kernel_rfl) (by simp) ?_
      refine AllReadyH.cons (o := { dst := some 37, op := Go.Op.call { callee := Go.Callee.value (Go.Operand.func 50), args := #[Go.Operand.tmp 36], argTypes := #[3] }, type := 9, pos := "web.go:75", after := #[{ on := 10, ground := Go.Ground.data }, { on := 6, ground := Go.Ground.chain }], guard := none }) rfl (fun K hK => ?_) AllReadyH.nil
      rw [if_pos (by kernel_rfl)]
      go_simp
      refine (Reason_walk st hs0 hs1 w8 (HW.out.up HU8.out).gn (range_up HRs.out HU8.out)).mono ?_
      rintro e w9 ⟨rfl, h9⟩
      have HU9 := Hid.of (HU8.out.trans h9)
      have HA9 := Hid.of (HA8.out.up h9)
      have HF9 := Hid.of (HF8.out.up h9)
      clear h9 hS
      rw [HRx.out]
      dsimp only
      refine hK.out _ _ ⟨HA9.out, HW.out.up HU9.out, HU9.out⟩ (fun hS => ?_)
      clear hK K
      refine wpAnyH_take (i := 12) (oi := { dst := some 38, op := Go.Op.binOp Go.BinOp.add 9 (Go.Operand.tmp 34) (Go.Operand.tmp 37) 9, type := 9, pos := "web.go:75", after := #[{ on := 8, ground := Go.Ground.data }, { on := 11, ground := Go.Ground.data }], guard := none }) (v := .string (vt ++ (⟨#[32]⟩ : ByteArray) ++ sx ++ (⟨#[32]⟩ : ByteArray) ++ rx)) rfl (by kernel_rfl) (by kernel_rfl) (by kernel_rfl) (fun _ _ _ h => h) (Or.inl ⟨by kernel_rfl, ?_⟩) hS ?_
      · intro w5 hSw
        clear hSw hS
        have hvz := HVz.out
        have hsz := HSz.out
        have hrz := HRz.out
        go_simp
      simp only [Act.put, List.setIfInBounds_toArray, List.set_cons_zero, List.set_cons_succ]
      refine wpAnyH_ready (rs := [16]) (by kernel_rfl) (by simp) ?_
      refine AllReadyH.cons (o := { dst := some 42, op := Go.Op.call { callee := Go.Callee.value (Go.Operand.func 43), args := #[Go.Operand.tmp 38, Go.Operand.tmp 39, Go.Operand.tmp 41], argTypes := #[9, 34, 23] }, type := 23, pos := "web.go:75", after := #[{ on := 12, ground := Go.Ground.data }, { on := 13, ground := Go.Ground.data }, { on := 15, ground := Go.Ground.data }, { on := 11, ground := Go.Ground.chain }], guard := none }) rfl (fun K hK => ?_) AllReadyH.nil
      rw [if_pos (by kernel_rfl)]
      go_simp
      refine (HPm.out w9 HF9.out (HB.out.up HU9.out)).mono ?_
      rintro e w10 ⟨⟨a8, c8, rfl, hO8⟩, h9⟩
      have HU10 := Hid.of (HU9.out.trans h9)
      have HA10 := Hid.of (HA9.out.up h9)
      have HO8 := Hid.of (show Ow w10 w.heap.size _ _ from ow_base hO8.out HU9.out.size)
      clear h9 hS hO8
      dsimp only
      refine hK.out _ _ ⟨HA10.out, HW.out.up HU10.out, HU10.out⟩ (fun hS => ?_)
      clear hK K
      refine wpAnyH_take (i := 17) (oi := { dst := some 2, op := Go.Op.assign (Go.Operand.tmp 42), type := 23, pos := "web.go:75", after := #[{ on := 16, ground := Go.Ground.data }, { on := 16, ground := Go.Ground.chain }, { on := 0, ground := Go.Ground.phase }, { on := 1, ground := Go.Ground.phase }, { on := 2, ground := Go.Ground.phase }, { on := 3, ground := Go.Ground.phase }, { on := 4, ground := Go.Ground.phase }, { on := 5, ground := Go.Ground.phase }, { on := 6, ground := Go.Ground.phase }, { on := 7, ground := Go.Ground.phase }, { on := 8, ground := Go.Ground.phase }, { on := 9, ground := Go.Ground.phase }, { on := 10, ground := Go.Ground.phase }, { on := 11, ground := Go.Ground.phase }, { on := 12, ground := Go.Ground.phase }, { on := 13, ground := Go.Ground.phase }, { on := 14, ground := Go.Ground.phase }, { on := 15, ground := Go.Ground.phase }, { on := 16, ground := Go.Ground.phase }], guard := none }) (v := .slice a8 L c8) rfl (by kernel_rfl) (by kernel_rfl) (by kernel_rfl) (fun _ _ _ h => h) (Or.inl ⟨by kernel_rfl, ?_⟩) hS ?_
      · intro w5 hSw
        clear hSw hS
        go_simp
      simp only [Act.put, List.setIfInBounds_toArray, List.set_cons_zero, List.set_cons_succ]
      refine wpAnyH_take (i := 18) (oi := { dst := some 3, op := Go.Op.assign (Go.Operand.const (Go.Value.int Go.IntKind.i64 0)), type := 37, pos := "web.go:75", after := #[{ on := 17, ground := Go.Ground.chain }, { on := 0, ground := Go.Ground.phase }, { on := 1, ground := Go.Ground.phase }, { on := 2, ground := Go.Ground.phase }, { on := 3, ground := Go.Ground.phase }, { on := 4, ground := Go.Ground.phase }, { on := 5, ground := Go.Ground.phase }, { on := 6, ground := Go.Ground.phase }, { on := 7, ground := Go.Ground.phase }, { on := 8, ground := Go.Ground.phase }, { on := 9, ground := Go.Ground.phase }, { on := 10, ground := Go.Ground.phase }, { on := 11, ground := Go.Ground.phase }, { on := 12, ground := Go.Ground.phase }, { on := 13, ground := Go.Ground.phase }, { on := 14, ground := Go.Ground.phase }, { on := 15, ground := Go.Ground.phase }, { on := 16, ground := Go.Ground.phase }, { on := 17, ground := Go.Ground.phase }], guard := none }) (v := .int .i64 0) rfl (by kernel_rfl) (by kernel_rfl) (by kernel_rfl) (fun _ _ _ h => h) (Or.inl ⟨by kernel_rfl, ?_⟩) hS ?_
      · intro w5 hSw
        clear hSw hS
        go_simp
      simp only [Act.put, List.setIfInBounds_toArray, List.set_cons_zero, List.set_cons_succ]
      clear hS
      refine wpAnyH_done (by kernel_rfl) ?_ _
      go_wp2
      go_ret2
      rw [HE.out]
      exact ⟨⟨a8, c8, by rw [HL.out]; rfl, Hid.of (by rw [HL.out]; exact HO8.out)⟩, HU10.out⟩
  | true =>
    have HFr := Hid.of (show raF st fs nb = pfs fs by unfold raF; rw [if_pos hb0])
    clear hb0
    have HF4 := Hid.of HO2.out.fdl
    have hZ := HZf.out
    rw [HFr.out] at hZ
    generalize pfs fs = F at HF4 HFr hZ ⊢
    have hFz : szs F ≤ 1099511627776 := by omega
    clear hZ
    obtain ⟨nF, hnF⟩ : ∃ nF, F.length = nF := ⟨_, rfl⟩
    have HNF := Hid.of hnF
    have hnFc := HF4.out.cap
    have HCk := Hid.of (checkResponse_walk ad st mi a fs.length c ab nb cb' cl a2 F c2 w2 HF4.out (HW.out.up HU2.out) hFz hnb)
    have HPm := Hid.of (fun (st : ByteArray) (w7 : World) (h1 : FdL w7 a2 F c2) (h2 : Sb w7 (.slice ab nb cb') bd) h3 h4 h5 => printMessage_walk st a2 F c2 ab nb cb' bd w7 h1 h2 h3 h4 h5)
    rw [hnF] at HCk HPm hnFc ⊢
    clear hnF
    go_wp2_with (with_reducible show wpList _ _ _ ({ dst := _, op := Op.load 55 _, type := _, pos := _, after := _, guard := _ } :: _) _ _; refine Shut.out ?_)
    show wpList _ _ _ _ _ _
    refine wpList_load_mid rfl _ _ rfl w.heap.size 0 rfl [.int .i64 st, .int .i64 mi, .slice a fs.length c, .slice ab nb cb', .bool cl] _ HA2.out.range Tryz.underlying55 rfl (by kernel_rfl) ?_
    simp only [Act.put, List.setIfInBounds_toArray, List.set_cons_zero, List.set_cons_succ]
    go_wp2_with fail
    refine HCk.out.mono ?_
    rintro e w6 ⟨rfl, h9⟩
    have HU6 := Hid.of (HU2.out.trans h9)
    have HA6 := Hid.of (HA2.out.up h9)
    have HF6 := Hid.of (HF4.out.up h9)
    clear h9
    dsimp only
    cases hck : ckr st mi F nb with
    | some k =>
      have HE := Hid.of (show rv = .error k by rw [← HR.out]; unfold raQ; rw [← HBn.out, HFr.out, hck])
      have hk := ckr_lt hck
      rw [show eoV ad (some k) = ev (ad k) from rfl]
      have hne := ev_neq ad k
      clear hck
      go_wp2_with fail
      refine (numberOf_err ad k hk w6 (HW.out.up HU6.out).ge).mono ?_
      rintro e w7 ⟨rfl, h9⟩
      have HU7 := Hid.of (HU6.out.trans h9)
      clear h9
      dsimp only
      go_wp2
      go_ret2
      rw [HE.out]
      exact ⟨rfl, HU7.out⟩
    | none =>
      have HE := Hid.of (show rv = .ok (prt (raS st mi) F bd) by rw [← HR.out]; unfold raQ; rw [← HBn.out, HFr.out, hck])
      obtain ⟨hq1, hq2, hq3, hq4, hq5, hq6⟩ := ckr_ok hck
      rw [show eoV ad none = Value.nilIface from rfl]
      have HSt := Hid.of (show (vt ++ (⟨#[32]⟩ : ByteArray) ++ sx ++ (⟨#[32]⟩ : ByteArray) ++ rx).data.toList = raS st mi by rw [bat_app, bat_app, bat_app, bat_app]; unfold raS; rw [HVd.out, HSd.out, HRd.out])
      have hsz4 : (vt ++ (⟨#[32]⟩ : ByteArray) ++ sx ++ (⟨#[32]⟩ : ByteArray) ++ rx).size ≤ 1048576 := by
        rw [Go.Lib.size_eq, HSt.out]
        exact Nat.le_trans (raS_no hq3 hq2).2 (by decide)
      have hsm : vl ≤ 100 ∧ sl ≤ 100 ∧ rl ≤ 100 := by
        have h1 := (raS_no hq3 hq2).2
        have h2 := HVn.out
        have h3 := HSn.out
        have h4 := HRn.out
        unfold raS at h1
        simp only [List.length_append, List.length_cons, List.length_nil] at h1
        omega
      obtain ⟨hvl, hsl2, hrl⟩ := hsm
      have HPm := Hid.of (fun w7 h1 h2 => HPm.out (vt ++ (⟨#[32]⟩ : ByteArray) ++ sx ++ (⟨#[32]⟩ : ByteArray) ++ rx) w7 h1 h2 hsz4 (by omega) (by rw [← HBn.out]; exact hq5))
      rw [HSt.out] at HPm
      clear hsz4 HSt
      obtain ⟨L, hL⟩ : ∃ L, (prt (raS st mi) F bd).length = L := ⟨_, rfl⟩
      have HL := Hid.of hL
      rw [hL] at HPm
      clear hL hck
      have hl1 : ¬ 9223372036854775807 < vl + 1 := by omega
      have hl2 : ¬ 9223372036854775807 < vl + 1 + sl := by omega
      have hl3 : ¬ 9223372036854775807 < vl + 1 + sl + 1 := by omega
      have hl4 : ¬ 9223372036854775807 < vl + 1 + sl + 1 + rl := by omega
      go_wp2
      have HUd := Hid.of HU6.out.drew
      have HAd := Hid.of (HA6.out.up (Up.refl _).drew)
      have HFd := Hid.of (HF6.out.up (Up.refl _).drew)
      refine wp_region_held_drew (S := fun w2 => At w2 w.heap.size 55 [.int .i64 st, .int .i64 mi, .slice a fs.length c, .slice ab nb cb', .bool cl] ∧ GW w2 ad ∧ Up w w2) (by kernel_rfl) ⟨HAd.out, HW.out.up HUd.out, HUd.out⟩ (fun hS => ?_)
      refine wpAnyH_take (i := 0) (oi := { dst := some 26, op := Go.Op.fieldAddr 55 (Go.Operand.tmp 1) 1, type := 0, pos := "web.go:75", after := #[], guard := none }) (v := .pointer (some ⟨w.heap.size, 1, none⟩)) rfl (by kernel_rfl) (by kernel_rfl) (by kernel_rfl) (fun _ _ _ h => h) (Or.inl ⟨by kernel_rfl, ?_⟩) hS ?_
      · intro w5 hSw
        clear hSw hS
        go_simp
      simp only [Act.put, List.setIfInBounds_toArray, List.set_cons_zero, List.set_cons_succ]
      refine wpAnyH_take (i := 1) (oi := { dst := some 27, op := Go.Op.load 3 (Go.Operand.tmp 26), type := 3, pos := "web.go:75", after := #[{ on := 0, ground := Go.Ground.data }], guard := none }) (v := .int .i64 mi) rfl (by kernel_rfl) (by kernel_rfl) (by kernel_rfl) (fun _ _ _ h => h) (Or.inl ⟨by kernel_rfl, ?_⟩) hS ?_
      · intro w5 hSw
        have h0 := hSw.1.cell (i := 1) rfl
        clear hSw hS
        go_simp
      simp only [Act.put, List.setIfInBounds_toArray, List.set_cons_zero, List.set_cons_succ]
      refine wpAnyH_take (i := 4) (oi := { dst := some 30, op := Go.Op.fieldAddr 55 (Go.Operand.tmp 1) 0, type := 0, pos := "web.go:75", after := #[], guard := none }) (v := .pointer (some ⟨w.heap.size, 0, none⟩)) rfl (by kernel_rfl) (by kernel_rfl) (by kernel_rfl) (fun _ _ _ h => h) (Or.inl ⟨by kernel_rfl, ?_⟩) hS ?_
      · intro w5 hSw
        clear hSw hS
        go_simp
      simp only [Act.put, List.setIfInBounds_toArray, List.set_cons_zero, List.set_cons_succ]
      refine wpAnyH_take (i := 5) (oi := { dst := some 31, op := Go.Op.load 3 (Go.Operand.tmp 30), type := 3, pos := "web.go:75", after := #[{ on := 4, ground := Go.Ground.data }], guard := none }) (v := .int .i64 st) rfl (by kernel_rfl) (by kernel_rfl) (by kernel_rfl) (fun _ _ _ h => h) (Or.inl ⟨by kernel_rfl, ?_⟩) hS ?_
      · intro w5 hSw
        have h0 := hSw.1.cell (i := 0) rfl
        clear hSw hS
        go_simp
      simp only [Act.put, List.setIfInBounds_toArray, List.set_cons_zero, List.set_cons_succ]
      refine wpAnyH_take (i := 9) (oi := { dst := some 35, op := Go.Op.fieldAddr 55 (Go.Operand.tmp 1) 0, type := 0, pos := "web.go:75", after := #[], guard := none }) (v := .pointer (some ⟨w.heap.size, 0, none⟩)) rfl (by kernel_rfl) (by kernel_rfl) (by kernel_rfl) (fun _ _ _ h => h) (Or.inl ⟨by kernel_rfl, ?_⟩) hS ?_
      · intro w5 hSw
        clear hSw hS
        go_simp
      simp only [Act.put, List.setIfInBounds_toArray, List.set_cons_zero, List.set_cons_succ]
      refine wpAnyH_take (i := 10) (oi := { dst := some 36, op := Go.Op.load 3 (Go.Operand.tmp 35), type := 3, pos := "web.go:75", after := #[{ on := 9, ground := Go.Ground.data }], guard := none }) (v := .int .i64 st) rfl (by kernel_rfl) (by kernel_rfl) (by kernel_rfl) (fun _ _ _ h => h) (Or.inl ⟨by kernel_rfl, ?_⟩) hS ?_
      · intro w5 hSw
        have h0 := hSw.1.cell (i := 0) rfl
        clear hSw hS
        go_simp
      simp only [Act.put, List.setIfInBounds_toArray, List.set_cons_zero, List.set_cons_succ]
      refine wpAnyH_take (i := 13) (oi := { dst := some 39, op := Go.Op.move (Go.Operand.tmp 4), type := 34, pos := "web.go:75", after := #[], guard := none }) (v := .slice a2 nF c2) rfl (by kernel_rfl) (by kernel_rfl) (by kernel_rfl) (fun _ _ _ h => h) (Or.inl ⟨by kernel_rfl, ?_⟩) hS ?_
      · intro w5 hSw
        clear hSw hS
        go_simp
      simp only [Act.put, List.setIfInBounds_toArray, List.set_cons_zero, List.set_cons_succ]
      refine wpAnyH_take (i := 14) (oi := { dst := some 40, op := Go.Op.fieldAddr 55 (Go.Operand.tmp 1) 3, type := 0, pos := "web.go:75", after := #[], guard := none }) (v := .pointer (some ⟨w.heap.size, 3, none⟩)) rfl (by kernel_rfl) (by kernel_rfl) (by kernel_rfl) (fun _ _ _ h => h) (Or.inl ⟨by kernel_rfl, ?_⟩) hS ?_
      · intro w5 hSw
        clear hSw hS
        go_simp
      simp only [Act.put, List.setIfInBounds_toArray, List.set_cons_zero, List.set_cons_succ]
      refine wpAnyH_take (i := 15) (oi := { dst := some 41, op := Go.Op.load 23 (Go.Operand.tmp 40), type := 23, pos := "web.go:75", after := #[{ on := 14, ground := Go.Ground.data }], guard := none }) (v := .slice ab nb cb') rfl (by kernel_rfl) (by kernel_rfl) (by kernel_rfl) (fun _ _ _ h => h) (Or.inl ⟨by kernel_rfl, ?_⟩) hS ?_
      · intro w5 hSw
        have h0 := hSw.1.cell (i := 3) rfl
        clear hSw hS
        go_simp
      simp only [Act.put, List.setIfInBounds_toArray, List.set_cons_zero, List.set_cons_succ]
      refine wpAnyH_ready (rs := [2]) (by kernel_rfl) (by simp) ?_
      refine AllReadyH.cons (o := { dst := some 28, op := Go.Op.call { callee := Go.Callee.value (Go.Operand.func 44), args := #[Go.Operand.tmp 27], argTypes := #[3] }, type := 9, pos := "web.go:75", after := #[{ on := 1, ground := Go.Ground.data }], guard := none }) rfl (fun K hK => ?_) AllReadyH.nil
      rw [if_pos (by kernel_rfl)]
      go_simp
      refine (versionText_walk mi hm0 hm1 w6.drew (HW.out.up HUd.out).gn).mono ?_
      rintro e w7 ⟨rfl, h9⟩
      have HU7 := Hid.of (HUd.out.trans h9)
      have HA7 := Hid.of (HAd.out.up h9)
      have HF7 := Hid.of (HFd.out.up h9)
      clear h9 hS
      rw [HVx.out]
      dsimp only
      refine hK.out _ _ ⟨HA7.out, HW.out.up HU7.out, HU7.out⟩ (fun hS => ?_)
      clear hK K
      refine wpAnyH_take (i := 3) (oi := { dst := some 29, op := Go.Op.binOp Go.BinOp.add 9 (Go.Operand.tmp 28) (Go.Operand.const (Go.Value.string { data := #[32] })) 9, type := 9, pos := "web.go:75", after := #[{ on := 2, ground := Go.Ground.data }], guard := none }) (v := .string (vt ++ (⟨#[32]⟩ : ByteArray))) rfl (by kernel_rfl) (by kernel_rfl) (by kernel_rfl) (fun _ _ _ h => h) (Or.inl ⟨by kernel_rfl, ?_⟩) hS ?_
      · intro w5 hSw
        clear hSw hS
        have hvz := HVz.out
        have hsz := HSz.out
        have hrz := HRz.out
        go_simp
      simp only [Act.put, List.setIfInBounds_toArray, List.set_cons_zero, List.set_cons_succ]
      refine wpAnyH_ready (rs := [6]) (by kernel_rfl) (by simp) ?_
      refine AllReadyH.cons (o := { dst := some 32, op := Go.Op.call { callee := Go.Callee.value (Go.Operand.func 49), args := #[Go.Operand.tmp 31], argTypes := #[3] }, type := 9, pos := "web.go:75", after := #[{ on := 5, ground := Go.Ground.data }, { on := 2, ground := Go.Ground.chain }], guard := none }) rfl (fun K hK => ?_) AllReadyH.nil
      rw [if_pos (by kernel_rfl)]
      go_simp
      refine (statusText_walk st hs0 hs1 w7 (HW.out.up HU7.out).gn).mono ?_
      rintro e w8 ⟨rfl, h9⟩
      have HU8 := Hid.of (HU7.out.trans h9)
      have HA8 := Hid.of (HA7.out.up h9)
      have HF8 := Hid.of (HF7.out.up h9)
      clear h9 hS
      rw [HSx.out]
      dsimp only
      refine hK.out _ _ ⟨HA8.out, HW.out.up HU8.out, HU8.out⟩ (fun hS => ?_)
      clear hK K
      refine wpAnyH_take (i := 7) (oi := { dst := some 33, op := Go.Op.binOp Go.BinOp.add 9 (Go.Operand.tmp 29) (Go.Operand.tmp 32) 9, type := 9, pos := "web.go:75", after := #[{ on := 3, ground := Go.Ground.data }, { on := 6, ground := Go.Ground.data }], guard := none }) (v := .string (vt ++ (⟨#[32]⟩ : ByteArray) ++ sx)) rfl (by kernel_rfl) (by kernel_rfl) (by kernel_rfl) (fun _ _ _ h => h) (Or.inl ⟨by kernel_rfl, ?_⟩) hS ?_
      · intro w5 hSw
        clear hSw hS
        have hvz := HVz.out
        have hsz := HSz.out
        have hrz := HRz.out
        go_simp
      simp only [Act.put, List.setIfInBounds_toArray, List.set_cons_zero, List.set_cons_succ]
      refine wpAnyH_take (i := 8) (oi := { dst := some 34, op := Go.Op.binOp Go.BinOp.add 9 (Go.Operand.tmp 33) (Go.Operand.const (Go.Value.string { data := #[32] })) 9, type := 9, pos := "web.go:75", after := #[{ on := 7, ground := Go.Ground.data }], guard := none }) (v := .string (vt ++ (⟨#[32]⟩ : ByteArray) ++ sx ++ (⟨#[32]⟩ : ByteArray))) rfl (by kernel_rfl) (by kernel_rfl) (by kernel_rfl) (fun _ _ _ h => h) (Or.inl ⟨by kernel_rfl, ?_⟩) hS ?_
      · intro w5 hSw
        clear hSw hS
        have hvz := HVz.out
        have hsz := HSz.out
        have hrz := HRz.out
        go_simp
      simp only [Act.put, List.setIfInBounds_toArray, List.set_cons_zero, List.set_cons_succ]
      refine wpAnyH_ready (rs := [11]) (by kernel_rfl) (by simp) ?_
      refine AllReadyH.cons (o := { dst := some 37, op := Go.Op.call { callee := Go.Callee.value (Go.Operand.func 50), args := #[Go.Operand.tmp 36], argTypes := #[3] }, type := 9, pos := "web.go:75", after := #[{ on := 10, ground := Go.Ground.data }, { on := 6, ground := Go.Ground.chain }], guard := none }) rfl (fun K hK => ?_) AllReadyH.nil
      rw [if_pos (by kernel_rfl)]
      go_simp
      refine (Reason_walk st hs0 hs1 w8 (HW.out.up HU8.out).gn (range_up HRs.out HU8.out)).mono ?_
      rintro e w9 ⟨rfl, h9⟩
      have HU9 := Hid.of (HU8.out.trans h9)
      have HA9 := Hid.of (HA8.out.up h9)
      have HF9 := Hid.of (HF8.out.up h9)
      clear h9 hS
      rw [HRx.out]
      dsimp only
      refine hK.out _ _ ⟨HA9.out, HW.out.up HU9.out, HU9.out⟩ (fun hS => ?_)
      clear hK K
      refine wpAnyH_take (i := 12) (oi := { dst := some 38, op := Go.Op.binOp Go.BinOp.add 9 (Go.Operand.tmp 34) (Go.Operand.tmp 37) 9, type := 9, pos := "web.go:75", after := #[{ on := 8, ground := Go.Ground.data }, { on := 11, ground := Go.Ground.data }], guard := none }) (v := .string (vt ++ (⟨#[32]⟩ : ByteArray) ++ sx ++ (⟨#[32]⟩ : ByteArray) ++ rx)) rfl (by kernel_rfl) (by kernel_rfl) (by kernel_rfl) (fun _ _ _ h => h) (Or.inl ⟨by kernel_rfl, ?_⟩) hS ?_
      · intro w5 hSw
        clear hSw hS
        have hvz := HVz.out
        have hsz := HSz.out
        have hrz := HRz.out
        go_simp
      simp only [Act.put, List.setIfInBounds_toArray, List.set_cons_zero, List.set_cons_succ]
      refine wpAnyH_ready (rs := [16]) (by kernel_rfl) (by simp) ?_
      refine AllReadyH.cons (o := { dst := some 42, op := Go.Op.call { callee := Go.Callee.value (Go.Operand.func 43), args := #[Go.Operand.tmp 38, Go.Operand.tmp 39, Go.Operand.tmp 41], argTypes := #[9, 34, 23] }, type := 23, pos := "web.go:75", after := #[{ on := 12, ground := Go.Ground.data }, { on := 13, ground := Go.Ground.data }, { on := 15, ground := Go.Ground.data }, { on := 11, ground := Go.Ground.chain }], guard := none }) rfl (fun K hK => ?_) AllReadyH.nil
      rw [if_pos (by kernel_rfl)]
      go_simp
      refine (HPm.out w9 HF9.out (HB.out.up HU9.out)).mono ?_
      rintro e w10 ⟨⟨a8, c8, rfl, hO8⟩, h9⟩
      have HU10 := Hid.of (HU9.out.trans h9)
      have HA10 := Hid.of (HA9.out.up h9)
      have HO8 := Hid.of (show Ow w10 w.heap.size _ _ from ow_base hO8.out HU9.out.size)
      clear h9 hS hO8
      dsimp only
      refine hK.out _ _ ⟨HA10.out, HW.out.up HU10.out, HU10.out⟩ (fun hS => ?_)
      clear hK K
      refine wpAnyH_take (i := 17) (oi := { dst := some 2, op := Go.Op.assign (Go.Operand.tmp 42), type := 23, pos := "web.go:75", after := #[{ on := 16, ground := Go.Ground.data }, { on := 16, ground := Go.Ground.chain }, { on := 0, ground := Go.Ground.phase }, { on := 1, ground := Go.Ground.phase }, { on := 2, ground := Go.Ground.phase }, { on := 3, ground := Go.Ground.phase }, { on := 4, ground := Go.Ground.phase }, { on := 5, ground := Go.Ground.phase }, { on := 6, ground := Go.Ground.phase }, { on := 7, ground := Go.Ground.phase }, { on := 8, ground := Go.Ground.phase }, { on := 9, ground := Go.Ground.phase }, { on := 10, ground := Go.Ground.phase }, { on := 11, ground := Go.Ground.phase }, { on := 12, ground := Go.Ground.phase }, { on := 13, ground := Go.Ground.phase }, { on := 14, ground := Go.Ground.phase }, { on := 15, ground := Go.Ground.phase }, { on := 16, ground := Go.Ground.phase }], guard := none }) (v := .slice a8 L c8) rfl (by kernel_rfl) (by kernel_rfl) (by kernel_rfl) (fun _ _ _ h => h) (Or.inl ⟨by kernel_rfl, ?_⟩) hS ?_
      · intro w5 hSw
        clear hSw hS
        go_simp
      simp only [Act.put, List.setIfInBounds_toArray, List.set_cons_zero, List.set_cons_succ]
      refine wpAnyH_take (i := 18) (oi := { dst := some 3, op := Go.Op.assign (Go.Operand.const (Go.Value.int Go.IntKind.i64 0)), type := 37, pos := "web.go:75", after := #[{ on := 17, ground := Go.Ground.chain }, { on := 0, ground := Go.Ground.phase }, { on := 1, ground := Go.Ground.phase }, { on := 2, ground := Go.Ground.phase }, { on := 3, ground := Go.Ground.phase }, { on := 4, ground := Go.Ground.phase }, { on := 5, ground := Go.Ground.phase }, { on := 6, ground := Go.Ground.phase }, { on := 7, ground := Go.Ground.phase }, { on := 8, ground := Go.Ground.phase }, { on := 9, ground := Go.Ground.phase }, { on := 10, ground := Go.Ground.phase }, { on := 11, ground := Go.Ground.phase }, { on := 12, ground := Go.Ground.phase }, { on := 13, ground := Go.Ground.phase }, { on := 14, ground := Go.Ground.phase }, { on := 15, ground := Go.Ground.phase }, { on := 16, ground := Go.Ground.phase }, { on := 17, ground := Go.Ground.phase }], guard := none }) (v := .int .i64 0) rfl (by kernel_rfl) (by kernel_rfl) (by kernel_rfl) (fun _ _ _ h => h) (Or.inl ⟨by kernel_rfl, ?_⟩) hS ?_
      · intro w5 hSw
        clear hSw hS
        go_simp
      simp only [Act.put, List.setIfInBounds_toArray, List.set_cons_zero, List.set_cons_succ]
      clear hS
      refine wpAnyH_done (by kernel_rfl) ?_ _
      go_wp2
      go_ret2
      rw [HE.out]
      exact ⟨⟨a8, c8, by rw [HL.out]; rfl, Hid.of (by rw [HL.out]; exact HO8.out)⟩, HU10.out⟩
end Go.Proofs.YtkaoalcffgnfeaaGreatDoor
namespace Go.Proofs.YtkaoalcffgnfeaaGreatDoor
open Go.RowKit Go.Shelf TextNum
set_option maxRecDepth 100000 in
theorem Rbare_walk (z : Int) (w : World) : Calls Tryz.prog 45 #[.int .i64 z] w fun e w' => e = .returned (.bool (bdl z)) ∧ w' = w := by
  obtain ⟨rv, hrv⟩ : ∃ rv, bdl z = rv := ⟨_, rfl⟩
  have HR := Hid.of hrv
  rw [hrv]
  clear hrv
  unfold bdl at HR
  by_cases h0 : 100 ≤ z ∧ z ≤ 199
  · have h1 := h0.1
    have h2 := h0.2
    have h3 : z < 200 := by omega
    have HE := Hid.of (show rv = true by rw [← HR.out, decide_eq_true h1, decide_eq_true h2]; rfl)
    clear h0
    go_enter Tryz.func45, Tryz.ntmps45
    go_wp2
    go_ret
    rw [HE.out]
    exact ⟨rfl, rfl⟩
  · have hd : (decide (100 ≤ z) && decide (z ≤ 199)) = false := by
      rw [Bool.and_eq_false_iff, decide_eq_false_iff_not, decide_eq_false_iff_not]; omega
    have HR2 := Hid.of (show rv = ((z == 204) || (z == 304)) by rw [← HR.out, hd]; rfl)
    clear HR hd
    cases h4 : (z == 204) with
    | true =>
      rw [h4] at HR2
      have HE := Hid.of (show rv = true from HR2.out)
      have hz : z = 204 := by simpa using h4
      subst hz
      clear h0
      go_enter Tryz.func45, Tryz.ntmps45
      go_wp2
      go_ret
      rw [HE.out]
      exact ⟨rfl, rfl⟩
    | false =>
      rw [h4] at HR2
      have HE := Hid.of (show rv = (z == 304) by rw [HR2.out]; rfl)
      by_cases h1 : 100 ≤ z
      · have h2 : ¬ z < 200 := by omega
        clear h0
        go_enter Tryz.func45, Tryz.ntmps45
        go_wp2
        go_ret
        rw [HE.out]
        exact ⟨rfl, rfl⟩
      · clear h0
        go_enter Tryz.func45, Tryz.ntmps45
        go_wp2
        go_ret
        rw [HE.out]
        exact ⟨rfl, rfl⟩
theorem rsn_len (st : Int) (h0 : -9223372036854775808 ≤ st) (h1 : st ≤ 9223372036854775807) : (rsn st).length ≤ 64 := by
  have hT : ∀ p ∈ rsT, p.2.data.toList.length ≤ 64 := by decide +kernel
  have hi := itoa_len st h0 h1
  unfold rsn
  split
  · rename_i p hp
    exact hT p (List.mem_of_find?_eq_some hp)
  · rw [List.length_append]
    simp only [List.length_cons, List.length_nil]
    omega
set_option maxRecDepth 100000 in
set_option maxHeartbeats 8000000 in
theorem RFormatResponse_walk (st mi : Int) (a : Option Addr) (fs : List FD) (c : Nat) (ab : Option Addr) (nb cb' : Nat) (bd : List UInt8) (cl : Bool) (w : World) (h : FdL w a fs c) (hb : Sb w (.slice ab nb cb') bd) (hRi : w.rangeAt 7 0 rsI) (hRs : w.rangeAt 8 0 rsS)
    (hs0 : -9223372036854775808 ≤ st) (hs1 : st ≤ 9223372036854775807) (hm0 : -9223372036854775808 ≤ mi) (hm1 : mi ≤ 9223372036854775807) (hl : szs fs ≤ 1099511627000) (hnb : nb ≤ 1099511627776) :
    Calls Tryz.prog 14 #[.agg #[.int .i64 st, .int .i64 mi, .slice a fs.length c, .slice ab nb cb', .bool cl]] w fun e w' => RfrR w' e (raQ st mi fs bd) ∧ Up w w' := by
  have HF := Hid.of h
  have HB := Hid.of hb
  have hcap := h.cap
  obtain ⟨hbn, hbc, hbm⟩ := hb.len
  unfold maxLen at hbm
  have HBn := Hid.of hbn
  clear h hb
  obtain ⟨rv, hrv⟩ : ∃ rv, raQ st mi fs bd = rv := ⟨_, rfl⟩
  have HZf := szs_raF st fs nb hnb
  have hsl := szs_len fs
  obtain ⟨F, hF⟩ : ∃ F, raF st fs nb = F := ⟨_, rfl⟩
  rw [hF] at HZf
  have HFr := Hid.of hF
  obtain ⟨ck, hck⟩ : ∃ ck, ckr st mi F nb = ck := ⟨_, rfl⟩
  have HRv := Hid.of (show rv = erM (prt (raS st mi) F bd) ck by
      rw [← hrv, ← hck]
      unfold raQ erM
      rw [← hbn, hF]
      rfl)
  rw [hrv]
  clear hrv hF hbn
  unfold ckr at hck
  have HC := Hid.of hck
  clear hck
  have hil := itoa_len mi hm0 hm1
  have hsl2 := itoa_len st hs0 hs1
  have hrl : (rsn st).length ≤ 64 := rsn_len st hs0 hs1
  have HVz0 : (⟨(Go.Lib.itoa mi).toArray⟩ : ByteArray).size = (Go.Lib.itoa mi).length := by simp [ByteArray.size]
  have HVx : vs (Go.Lib.itoa mi) = .string ⟨(Go.Lib.itoa mi).toArray⟩ := rfl
  have HVd0 : (⟨(Go.Lib.itoa mi).toArray⟩ : ByteArray).data.toList = Go.Lib.itoa mi := rfl
  generalize (⟨(Go.Lib.itoa mi).toArray⟩ : ByteArray) = vt at HVx HVz0 HVd0
  have HSz0 : (⟨(Go.Lib.itoa st).toArray⟩ : ByteArray).size = (Go.Lib.itoa st).length := by simp [ByteArray.size]
  have HSx : vs (Go.Lib.itoa st) = .string ⟨(Go.Lib.itoa st).toArray⟩ := rfl
  have HSd0 : (⟨(Go.Lib.itoa st).toArray⟩ : ByteArray).data.toList = Go.Lib.itoa st := rfl
  generalize (⟨(Go.Lib.itoa st).toArray⟩ : ByteArray) = sx at HSx HSz0 HSd0
  have HRz0 : (⟨(rsn st).toArray⟩ : ByteArray).size = (rsn st).length := by simp [ByteArray.size]
  have HRx : vs (rsn st) = .string ⟨(rsn st).toArray⟩ := rfl
  have HRd0 : (⟨(rsn st).toArray⟩ : ByteArray).data.toList = rsn st := rfl
  generalize (⟨(rsn st).toArray⟩ : ByteArray) = rx at HRx HRz0 HRd0
  have HFm := Hid.of (fun w' => RFormatNumber_walk mi hm0 hm1 w')
  have HFs := Hid.of (fun w' => RFormatNumber_walk st hs0 hs1 w')
  have HRr := Hid.of (fun w' (h : Up w w') => RReason_walk st hs0 hs1 w' (range_up hRi h) (range_up hRs h))
  rw [HVx] at HFm
  rw [HSx] at HFs
  rw [HRx] at HRr
  have HSd := Hid.of (show ((⟨#[72, 84, 84, 80, 47, 49, 46]⟩ : ByteArray) ++ vt ++ (⟨#[32]⟩ : ByteArray) ++ sx ++ (⟨#[32]⟩ : ByteArray) ++ rx).data.toList = raS st mi by
    rw [bat_app, bat_app, bat_app, bat_app, bat_app]
    unfold raS vtx
    rw [HVd0, HSd0, HRd0])
  have HSs := Hid.of (show ((⟨#[72, 84, 84, 80, 47, 49, 46]⟩ : ByteArray) ++ vt ++ (⟨#[32]⟩ : ByteArray) ++ sx ++ (⟨#[32]⟩ : ByteArray) ++ rx).size = (raS st mi).length by rw [Go.Lib.size_eq, HSd.out])
  have HVz := Hid.of (show vt.size ≤ 64 by omega)
  have HSz := Hid.of (show sx.size ≤ 64 by omega)
  have HRz := Hid.of (show rx.size ≤ 64 by omega)
  have hl0 : ¬ 9223372036854775807 < 7 + vt.size := by omega
  have hl1 : ¬ 9223372036854775807 < 7 + vt.size + 1 := by omega
  have hl2 : ¬ 9223372036854775807 < 7 + vt.size + 1 + sx.size := by omega
  have hl3 : ¬ 9223372036854775807 < 7 + vt.size + 1 + sx.size + 1 := by omega
  have hl4 : ¬ 9223372036854775807 < 7 + vt.size + 1 + sx.size + 1 + rx.size := by omega
  clear HVz0 HVd0 HSz0 HSd0 HRz0 HRd0 HVx HSx HRx hil hsl2 hrl hRi hRs
  have HHb := Hid.of (fun a2 c2 w' (h : FdL w' a2 F c2) => RheadBytes_walk a2 F c2 w' h (by omega))
  have HCf := Hid.of (fun a2 c2 w' (h : FdL w' a2 F c2) => Rchecked_walk a2 F c2 w' h (by omega))
  have HLd := Hid.of (fun (st : ByteArray) a2 c2 w' (h : FdL w' a2 F c2) (h2 : Sb w' (.slice ab nb cb') bd) h3 h4 h5 => Rlaid_walk st a2 F c2 _ bd w' h h2 h3 h4 h5)
  obtain ⟨nF, hnF⟩ : ∃ nF, F.length = nF := ⟨_, rfl⟩
  have HNF := Hid.of hnF
  obtain ⟨z, hz⟩ : ∃ z, szs F = z := ⟨_, rfl⟩
  rw [hnF] at HHb HCf HLd
  rw [hz] at HHb HLd HC HZf
  clear hnF hz
  have HA0 := Hid.of (at_new w 51 [.int .i64 st, .int .i64 mi, .slice a fs.length c, .slice ab nb cb', .bool cl])
  have HU0 := Hid.of ((Up.refl w).alloc (.cells [.int .i64 st, .int .i64 mi, .slice a fs.length c, .slice ab nb cb', .bool cl].toArray 51))
  have HT0 := Hid.of (tld_neg fs)
  have HT1 := Hid.of (tld_nat fs nb)
  have HF1 := HFr.out
  unfold raF at HF1
  go_enter Tryz.func14, Tryz.ntmps14
  go_wp2_with (with_reducible show wpList _ _ _ ({ dst := _, op := Op.load 23 _, type := _, pos := _, after := _, guard := _ } :: _) _ _; refine Shut.out ?_)
  show wpList _ _ _ _ _ _
  obtain ⟨w1, hw1⟩ : ∃ w1, w.alloc (.cells [.int .i64 st, .int .i64 mi, .slice a fs.length c, .slice ab nb cb', .bool cl].toArray 51) = w1 := ⟨_, rfl⟩
  rw [hw1] at HA0 HU0
  change wpList _ _ _ _ _ (w.alloc (.cells [.int .i64 st, .int .i64 mi, .slice a fs.length c, .slice ab nb cb', .bool cl].toArray 51))
  rw [hw1]
  clear hw1
  have c3 := HA0.out.cell (i := 3) rfl
  have c0 := HA0.out.cell (i := 0) rfl
  go_wp2_with fail
  refine (Rbare_walk st w1).mono ?_
  rintro e w2 ⟨rfl, h9⟩
  obtain rfl := h9.symm
  clear h9
  dsimp only
  cases hno : bdl st with
  | true =>
    have HT := Hid.of (show tld fs (-1) = F by rw [HT0.out, ← HF1, if_pos hno])
    have HNb := Hid.of hno
    clear HT0 HT1 HF1 hno
    have c2 := HA0.out.cell (i := 2) rfl
    go_wp2_with fail
    refine (Rprinted_walk a fs c (-1) w1 (HF.out.up HU0.out) (by omega) (by omega) (by omega)).mono ?_
    rintro e w2 ⟨⟨a2, c2', rfl, hO2⟩, h9⟩
    have HU2 := Hid.of (HU0.out.trans h9)
    have HA2 := Hid.of (HA0.out.up h9)
    have hO3 := hO2.out.fdl
    rw [HT.out] at hO3 ⊢
    have HF2 := Hid.of hO3
    have hcap2 := hO3.cap
    rw [HNF.out] at hcap2 ⊢
    clear h9 hO2 hO3 c2 c0 c3 HT
    dsimp only
    go_wp2_with fail
    refine (HHb.out _ _ _ HF2.out).mono ?_
    rintro e w4 ⟨rfl, h9⟩
    have HU4 := Hid.of (HU2.out.trans h9)
    have HA4 := Hid.of (HA2.out.up h9)
    have HF4 := Hid.of (HF2.out.up h9)
    clear h9
    dsimp only
    by_cases h2 : 16384 < z
    · have h2z : (16384 : Int) < (z : Int) := by omega
      have HE := Hid.of (show rv = .error 1 by rw [HRv.out, ← HC.out, if_pos h2]; rfl)
      go_wp2
      go_ret2
      rw [HE.out]
      exact ⟨rfl, HU4.out⟩
    · have h2z : ¬ (16384 : Int) < (z : Int) := by omega
      rw [if_neg h2] at HC
      have c1 := HA4.out.cell (i := 1) rfl
      by_cases hm2 : mi = 0
      · subst hm2
        rw [if_neg (show ¬ mnr 0 = false by decide)] at HC
        have c0 := HA4.out.cell (i := 0) rfl
        by_cases ht1 : st < 100
        · have HSf := Hid.of (show sto st = false by unfold sto; rw [decide_eq_false (show ¬ 100 ≤ st by omega)]; rfl)
          have HE := Hid.of (show rv = .error 11 by rw [HRv.out, ← HC.out, if_pos HSf.out]; rfl)
          go_wp2
          go_ret2
          rw [HE.out]
          exact ⟨rfl, HU4.out⟩
        · by_cases ht2 : 599 < st
          · have HSf := Hid.of (show sto st = false by unfold sto; rw [decide_eq_false (show ¬ st ≤ 599 by omega), Bool.and_false])
            have HE := Hid.of (show rv = .error 11 by rw [HRv.out, ← HC.out, if_pos HSf.out]; rfl)
            go_wp2
            go_ret2
            rw [HE.out]
            exact ⟨rfl, HU4.out⟩
          · have HSt := Hid.of (show sto st = true by unfold sto; rw [decide_eq_true (show 100 ≤ st by omega), decide_eq_true (show st ≤ 599 by omega)]; rfl)
            rw [if_neg (by rw [HSt.out]; simp)] at HC
            go_wp2_with fail
            refine (HCf.out _ _ _ HF4.out).mono ?_
            rintro e w8 ⟨rfl, h9⟩
            have HU8 := Hid.of (HU4.out.trans h9)
            have HA8 := Hid.of (HA4.out.up h9)
            have HF8 := Hid.of (HF4.out.up h9)
            clear h9
            dsimp only
            clear c0
            cases hcf : ckf F with
            | some k =>
              have hkz := nums_ne (ckf_lt hcf)
              have HE := Hid.of (show rv = .error k by rw [HRv.out, ← HC.out, hcf]; rfl)
              clear hcf
              rw [show ckN (some k) = nums k from rfl]
              go_wp2
              go_ret2
              rw [HE.out]
              exact ⟨rfl, HU8.out⟩
            | none =>
              rw [hcf] at HC
              rw [show ckN none = 0 from rfl]
              clear hcf
              have c3 := HA8.out.cell (i := 3) rfl
              by_cases hbl : 1048576 < nb
              · have hblz : (1048576 : Int) < (nb : Int) := by omega
                have HE := Hid.of (show rv = .error 7 by rw [HRv.out, ← HC.out, if_pos hbl]; rfl)
                go_wp2
                go_ret2
                rw [HE.out]
                exact ⟨rfl, HU8.out⟩
              · have hblz : ¬ (1048576 : Int) < (nb : Int) := by omega
                by_cases hb1 : 0 < nb
                · have hb1z : (0 : Int) < (nb : Int) := by omega
                  have HE := Hid.of (show rv = .error 7 by rw [HRv.out, ← HC.out, if_neg hbl, if_pos ⟨hb1, HNb.out⟩]; rfl)
                  go_wp2
                  go_ret2
                  rw [HE.out]
                  exact ⟨rfl, HU8.out⟩
                · have hb1z : ¬ (0 : Int) < (nb : Int) := by omega
                  have HB0 := Hid.of (show ¬ (0 < nb ∧ bdl st = true) from fun h => hb1 h.1)
                  have HNo := Hid.of (raS_no HSt.out (show mnr 0 = true by decide)).2
                  go_wp2
                  clear c3
                  have HUd := Hid.of HU8.out.drew
                  have HAd := Hid.of (HA8.out.up (Up.refl _).drew)
                  have HFd := Hid.of (HF8.out.up (Up.refl _).drew)
                  refine wp_region_held_drew (S := fun w2 => At w2 w.heap.size 51 [.int .i64 st, .int .i64 0, .slice a fs.length c, .slice ab nb cb', .bool cl] ∧ Up w w2) (by kernel_rfl) ⟨HAd.out, HUd.out⟩ (fun hS => ?_)
                  refine wpAnyH_take (i := 0) (oi := { dst := some 57, op := Go.Op.fieldAddr 51 (Go.Operand.tmp 1) 1, type := 0, pos := "print.go:226", after := #[], guard := none }) (v := .pointer (some ⟨w.heap.size, 1, none⟩)) rfl (by kernel_rfl) (by kernel_rfl) (by kernel_rfl) (fun _ _ _ h => h) (Or.inl ⟨by kernel_rfl, ?_⟩) hS ?_
                  · intro w5 hSw
                    clear hSw hS
                    go_simp
                  simp only [Act.put, List.setIfInBounds_toArray, List.set_cons_zero, List.set_cons_succ]
                  refine wpAnyH_take (i := 1) (oi := { dst := some 58, op := Go.Op.load 3 (Go.Operand.tmp 57), type := 3, pos := "print.go:226", after := #[{ on := 0, ground := Go.Ground.data }], guard := none }) (v := .int .i64 0) rfl (by kernel_rfl) (by kernel_rfl) (by kernel_rfl) (fun _ _ _ h => h) (Or.inl ⟨by kernel_rfl, ?_⟩) hS ?_
                  · intro w5 hSw
                    have h0 := hSw.1.cell (i := 1) rfl
                    clear hSw hS
                    go_simp
                  simp only [Act.put, List.setIfInBounds_toArray, List.set_cons_zero, List.set_cons_succ]
                  refine wpAnyH_take (i := 5) (oi := { dst := some 62, op := Go.Op.fieldAddr 51 (Go.Operand.tmp 1) 0, type := 0, pos := "print.go:226", after := #[], guard := none }) (v := .pointer (some ⟨w.heap.size, 0, none⟩)) rfl (by kernel_rfl) (by kernel_rfl) (by kernel_rfl) (fun _ _ _ h => h) (Or.inl ⟨by kernel_rfl, ?_⟩) hS ?_
                  · intro w5 hSw
                    clear hSw hS
                    go_simp
                  simp only [Act.put, List.setIfInBounds_toArray, List.set_cons_zero, List.set_cons_succ]
                  refine wpAnyH_take (i := 6) (oi := { dst := some 63, op := Go.Op.load 3 (Go.Operand.tmp 62), type := 3, pos := "print.go:226", after := #[{ on := 5, ground := Go.Ground.data }], guard := none }) (v := .int .i64 st) rfl (by kernel_rfl) (by kernel_rfl) (by kernel_rfl) (fun _ _ _ h => h) (Or.inl ⟨by kernel_rfl, ?_⟩) hS ?_
                  · intro w5 hSw
                    have h0 := hSw.1.cell (i := 0) rfl
                    clear hSw hS
                    go_simp
                  simp only [Act.put, List.setIfInBounds_toArray, List.set_cons_zero, List.set_cons_succ]
                  refine wpAnyH_take (i := 10) (oi := { dst := some 67, op := Go.Op.fieldAddr 51 (Go.Operand.tmp 1) 0, type := 0, pos := "print.go:226", after := #[], guard := none }) (v := .pointer (some ⟨w.heap.size, 0, none⟩)) rfl (by kernel_rfl) (by kernel_rfl) (by kernel_rfl) (fun _ _ _ h => h) (Or.inl ⟨by kernel_rfl, ?_⟩) hS ?_
                  · intro w5 hSw
                    clear hSw hS
                    go_simp
                  simp only [Act.put, List.setIfInBounds_toArray, List.set_cons_zero, List.set_cons_succ]
                  refine wpAnyH_take (i := 11) (oi := { dst := some 68, op := Go.Op.load 3 (Go.Operand.tmp 67), type := 3, pos := "print.go:226", after := #[{ on := 10, ground := Go.Ground.data }], guard := none }) (v := .int .i64 st) rfl (by kernel_rfl) (by kernel_rfl) (by kernel_rfl) (fun _ _ _ h => h) (Or.inl ⟨by kernel_rfl, ?_⟩) hS ?_
                  · intro w5 hSw
                    have h0 := hSw.1.cell (i := 0) rfl
                    clear hSw hS
                    go_simp
                  simp only [Act.put, List.setIfInBounds_toArray, List.set_cons_zero, List.set_cons_succ]
                  refine wpAnyH_ready (rs := [2]) (by kernel_rfl) (by simp) ?_
                  refine AllReadyH.cons (o := { dst := some 59, op := Go.Op.call { callee := Go.Callee.value (Go.Operand.func 31), args := #[Go.Operand.tmp 58], argTypes := #[2] }, type := 9, pos := "print.go:226", after := #[{ on := 1, ground := Go.Ground.data }], guard := none }) rfl (fun K hK => ?_) AllReadyH.nil
                  rw [if_pos (by kernel_rfl)]
                  go_simp
                  refine (HFm.out w8.drew).mono ?_
                  rintro e w10 ⟨rfl, h9⟩
                  have HU10 := Hid.of (HUd.out.trans h9)
                  have HA10 := Hid.of (HAd.out.up h9)
                  have HF10 := Hid.of (HFd.out.up h9)
                  clear h9 hS
                  dsimp only
                  refine hK.out _ _ ⟨HA10.out, HU10.out⟩ (fun hS => ?_)
                  clear hK K
                  refine wpAnyH_take (i := 3) (oi := { dst := some 60, op := Go.Op.binOp Go.BinOp.add 9 (Go.Operand.const (Go.Value.string { data := #[72, 84, 84, 80, 47, 49, 46] })) (Go.Operand.tmp 59) 9, type := 9, pos := "print.go:226", after := #[{ on := 2, ground := Go.Ground.data }], guard := none }) (v := .string ((⟨#[72, 84, 84, 80, 47, 49, 46]⟩ : ByteArray) ++ vt)) rfl (by kernel_rfl) (by kernel_rfl) (by kernel_rfl) (fun _ _ _ h => h) (Or.inl ⟨by kernel_rfl, ?_⟩) hS ?_
                  · intro w5 hSw
                    clear hSw hS
                    have hvz := HVz.out
                    have hsz := HSz.out
                    have hrz := HRz.out
                    go_simp
                  simp only [Act.put, List.setIfInBounds_toArray, List.set_cons_zero, List.set_cons_succ]
                  refine wpAnyH_take (i := 4) (oi := { dst := some 61, op := Go.Op.binOp Go.BinOp.add 9 (Go.Operand.tmp 60) (Go.Operand.const (Go.Value.string { data := #[32] })) 9, type := 9, pos := "print.go:226", after := #[{ on := 3, ground := Go.Ground.data }], guard := none }) (v := .string ((⟨#[72, 84, 84, 80, 47, 49, 46]⟩ : ByteArray) ++ vt ++ (⟨#[32]⟩ : ByteArray))) rfl (by kernel_rfl) (by kernel_rfl) (by kernel_rfl) (fun _ _ _ h => h) (Or.inl ⟨by kernel_rfl, ?_⟩) hS ?_
                  · intro w5 hSw
                    clear hSw hS
                    have hvz := HVz.out
                    have hsz := HSz.out
                    have hrz := HRz.out
                    go_simp
                  simp only [Act.put, List.setIfInBounds_toArray, List.set_cons_zero, List.set_cons_succ]
                  refine wpAnyH_ready (rs := [7]) (by kernel_rfl) (by simp) ?_
                  refine AllReadyH.cons (o := { dst := some 64, op := Go.Op.call { callee := Go.Callee.value (Go.Operand.func 31), args := #[Go.Operand.tmp 63], argTypes := #[2] }, type := 9, pos := "print.go:226", after := #[{ on := 6, ground := Go.Ground.data }, { on := 2, ground := Go.Ground.chain }], guard := none }) rfl (fun K hK => ?_) AllReadyH.nil
                  rw [if_pos (by kernel_rfl)]
                  go_simp
                  refine (HFs.out w10).mono ?_
                  rintro e w11 ⟨rfl, h9⟩
                  have HU11 := Hid.of (HU10.out.trans h9)
                  have HA11 := Hid.of (HA10.out.up h9)
                  have HF11 := Hid.of (HF10.out.up h9)
                  clear h9 hS
                  dsimp only
                  refine hK.out _ _ ⟨HA11.out, HU11.out⟩ (fun hS => ?_)
                  clear hK K
                  refine wpAnyH_take (i := 8) (oi := { dst := some 65, op := Go.Op.binOp Go.BinOp.add 9 (Go.Operand.tmp 61) (Go.Operand.tmp 64) 9, type := 9, pos := "print.go:226", after := #[{ on := 4, ground := Go.Ground.data }, { on := 7, ground := Go.Ground.data }], guard := none }) (v := .string ((⟨#[72, 84, 84, 80, 47, 49, 46]⟩ : ByteArray) ++ vt ++ (⟨#[32]⟩ : ByteArray) ++ sx)) rfl (by kernel_rfl) (by kernel_rfl) (by kernel_rfl) (fun _ _ _ h => h) (Or.inl ⟨by kernel_rfl, ?_⟩) hS ?_
                  · intro w5 hSw
                    clear hSw hS
                    have hvz := HVz.out
                    have hsz := HSz.out
                    have hrz := HRz.out
                    go_simp
                  simp only [Act.put, List.setIfInBounds_toArray, List.set_cons_zero, List.set_cons_succ]
                  refine wpAnyH_take (i := 9) (oi := { dst := some 66, op := Go.Op.binOp Go.BinOp.add 9 (Go.Operand.tmp 65) (Go.Operand.const (Go.Value.string { data := #[32] })) 9, type := 9, pos := "print.go:226", after := #[{ on := 8, ground := Go.Ground.data }], guard := none }) (v := .string ((⟨#[72, 84, 84, 80, 47, 49, 46]⟩ : ByteArray) ++ vt ++ (⟨#[32]⟩ : ByteArray) ++ sx ++ (⟨#[32]⟩ : ByteArray))) rfl (by kernel_rfl) (by kernel_rfl) (by kernel_rfl) (fun _ _ _ h => h) (Or.inl ⟨by kernel_rfl, ?_⟩) hS ?_
                  · intro w5 hSw
                    clear hSw hS
                    have hvz := HVz.out
                    have hsz := HSz.out
                    have hrz := HRz.out
                    go_simp
                  simp only [Act.put, List.setIfInBounds_toArray, List.set_cons_zero, List.set_cons_succ]
                  refine wpAnyH_ready (rs := [12]) (by kernel_rfl) (by simp) ?_
                  refine AllReadyH.cons (o := { dst := some 69, op := Go.Op.call { callee := Go.Callee.value (Go.Operand.func 46), args := #[Go.Operand.tmp 68], argTypes := #[3] }, type := 9, pos := "print.go:226", after := #[{ on := 11, ground := Go.Ground.data }, { on := 7, ground := Go.Ground.chain }], guard := none }) rfl (fun K hK => ?_) AllReadyH.nil
                  rw [if_pos (by kernel_rfl)]
                  go_simp
                  refine (HRr.out w11 HU11.out).mono ?_
                  rintro e w12 ⟨rfl, h9⟩
                  have HU12 := Hid.of (HU11.out.trans h9)
                  have HA12 := Hid.of (HA11.out.up h9)
                  have HF12 := Hid.of (HF11.out.up h9)
                  clear h9 hS
                  dsimp only
                  refine hK.out _ _ ⟨HA12.out, HU12.out⟩ (fun hS => ?_)
                  clear hK K
                  refine wpAnyH_take (i := 13) (oi := { dst := some 70, op := Go.Op.binOp Go.BinOp.add 9 (Go.Operand.tmp 66) (Go.Operand.tmp 69) 9, type := 9, pos := "print.go:226", after := #[{ on := 9, ground := Go.Ground.data }, { on := 12, ground := Go.Ground.data }], guard := none }) (v := .string ((⟨#[72, 84, 84, 80, 47, 49, 46]⟩ : ByteArray) ++ vt ++ (⟨#[32]⟩ : ByteArray) ++ sx ++ (⟨#[32]⟩ : ByteArray) ++ rx)) rfl (by kernel_rfl) (by kernel_rfl) (by kernel_rfl) (fun _ _ _ h => h) (Or.inl ⟨by kernel_rfl, ?_⟩) hS ?_
                  · intro w5 hSw
                    clear hSw hS
                    have hvz := HVz.out
                    have hsz := HSz.out
                    have hrz := HRz.out
                    go_simp
                  simp only [Act.put, List.setIfInBounds_toArray, List.set_cons_zero, List.set_cons_succ]
                  refine wpAnyH_take (i := 14) (oi := { dst := some 8, op := Go.Op.assign (Go.Operand.tmp 70), type := 9, pos := "print.go:226", after := #[{ on := 13, ground := Go.Ground.data }, { on := 12, ground := Go.Ground.chain }, { on := 0, ground := Go.Ground.phase }, { on := 1, ground := Go.Ground.phase }, { on := 2, ground := Go.Ground.phase }, { on := 3, ground := Go.Ground.phase }, { on := 4, ground := Go.Ground.phase }, { on := 5, ground := Go.Ground.phase }, { on := 6, ground := Go.Ground.phase }, { on := 7, ground := Go.Ground.phase }, { on := 8, ground := Go.Ground.phase }, { on := 9, ground := Go.Ground.phase }, { on := 10, ground := Go.Ground.phase }, { on := 11, ground := Go.Ground.phase }, { on := 12, ground := Go.Ground.phase }, { on := 13, ground := Go.Ground.phase }], guard := none }) (v := .string ((⟨#[72, 84, 84, 80, 47, 49, 46]⟩ : ByteArray) ++ vt ++ (⟨#[32]⟩ : ByteArray) ++ sx ++ (⟨#[32]⟩ : ByteArray) ++ rx)) rfl (by kernel_rfl) (by kernel_rfl) (by kernel_rfl) (fun _ _ _ h => h) (Or.inl ⟨by kernel_rfl, ?_⟩) hS ?_
                  · intro w5 hSw
                    clear hSw hS
                    go_simp
                  simp only [Act.put, List.setIfInBounds_toArray, List.set_cons_zero, List.set_cons_succ]
                  clear hS
                  refine wpAnyH_done (by kernel_rfl) ?_ _
                  generalize (⟨#[72, 84, 84, 80, 47, 49, 46]⟩ : ByteArray) ++ vt ++ (⟨#[32]⟩ : ByteArray) ++ sx ++ (⟨#[32]⟩ : ByteArray) ++ rx = fst at HSd HSs ⊢
                  have hbl2 : bd.length ≤ 1048576 := by have := HBn.out; omega
                  have hfl : fst.size ≤ 1048576 := by rw [HSs.out]; exact Nat.le_trans HNo.out (by decide)
                  have c3 := HA12.out.cell (i := 3) rfl
                  go_wp2_with fail
                  refine (HLd.out fst _ _ _ HF12.out (HB.out.up HU12.out) hfl (by omega) hbl2).mono ?_
                  rintro e w13 ⟨⟨a8, c8, rfl, hO8⟩, h9⟩
                  have HU13 := Hid.of (HU12.out.trans h9)
                  have HO8 := Hid.of hO8.out
                  clear h9 hO8
                  rw [HSd.out] at HO8 ⊢
                  dsimp only
                  have HE := Hid.of (show rv = .ok (prt (raS st 0) F bd) by rw [HRv.out, ← HC.out, if_neg hbl, if_neg HB0.out]; rfl)
                  go_wp2
                  go_ret2
                  rw [HE.out]
                  exact ⟨⟨a8, c8, rfl, Hid.of HO8.out⟩, HU13.out⟩
      · by_cases hm3 : mi = 1
        · subst hm3
          rw [if_neg (show ¬ mnr 1 = false by decide)] at HC
          have c0 := HA4.out.cell (i := 0) rfl
          by_cases ht1 : st < 100
          · have HSf := Hid.of (show sto st = false by unfold sto; rw [decide_eq_false (show ¬ 100 ≤ st by omega)]; rfl)
            have HE := Hid.of (show rv = .error 11 by rw [HRv.out, ← HC.out, if_pos HSf.out]; rfl)
            go_wp2
            go_ret2
            rw [HE.out]
            exact ⟨rfl, HU4.out⟩
          · by_cases ht2 : 599 < st
            · have HSf := Hid.of (show sto st = false by unfold sto; rw [decide_eq_false (show ¬ st ≤ 599 by omega), Bool.and_false])
              have HE := Hid.of (show rv = .error 11 by rw [HRv.out, ← HC.out, if_pos HSf.out]; rfl)
              go_wp2
              go_ret2
              rw [HE.out]
              exact ⟨rfl, HU4.out⟩
            · have HSt := Hid.of (show sto st = true by unfold sto; rw [decide_eq_true (show 100 ≤ st by omega), decide_eq_true (show st ≤ 599 by omega)]; rfl)
              rw [if_neg (by rw [HSt.out]; simp)] at HC
              go_wp2_with fail
              refine (HCf.out _ _ _ HF4.out).mono ?_
              rintro e w8 ⟨rfl, h9⟩
              have HU8 := Hid.of (HU4.out.trans h9)
              have HA8 := Hid.of (HA4.out.up h9)
              have HF8 := Hid.of (HF4.out.up h9)
              clear h9
              dsimp only
              clear c0
              cases hcf : ckf F with
              | some k =>
                have hkz := nums_ne (ckf_lt hcf)
                have HE := Hid.of (show rv = .error k by rw [HRv.out, ← HC.out, hcf]; rfl)
                clear hcf
                rw [show ckN (some k) = nums k from rfl]
                go_wp2
                go_ret2
                rw [HE.out]
                exact ⟨rfl, HU8.out⟩
              | none =>
                rw [hcf] at HC
                rw [show ckN none = 0 from rfl]
                clear hcf
                have c3 := HA8.out.cell (i := 3) rfl
                by_cases hbl : 1048576 < nb
                · have hblz : (1048576 : Int) < (nb : Int) := by omega
                  have HE := Hid.of (show rv = .error 7 by rw [HRv.out, ← HC.out, if_pos hbl]; rfl)
                  go_wp2
                  go_ret2
                  rw [HE.out]
                  exact ⟨rfl, HU8.out⟩
                · have hblz : ¬ (1048576 : Int) < (nb : Int) := by omega
                  by_cases hb1 : 0 < nb
                  · have hb1z : (0 : Int) < (nb : Int) := by omega
                    have HE := Hid.of (show rv = .error 7 by rw [HRv.out, ← HC.out, if_neg hbl, if_pos ⟨hb1, HNb.out⟩]; rfl)
                    go_wp2
                    go_ret2
                    rw [HE.out]
                    exact ⟨rfl, HU8.out⟩
                  · have hb1z : ¬ (0 : Int) < (nb : Int) := by omega
                    have HB0 := Hid.of (show ¬ (0 < nb ∧ bdl st = true) from fun h => hb1 h.1)
                    have HNo := Hid.of (raS_no HSt.out (show mnr 1 = true by decide)).2
                    go_wp2
                    clear c3
                    have HUd := Hid.of HU8.out.drew
                    have HAd := Hid.of (HA8.out.up (Up.refl _).drew)
                    have HFd := Hid.of (HF8.out.up (Up.refl _).drew)
                    refine wp_region_held_drew (S := fun w2 => At w2 w.heap.size 51 [.int .i64 st, .int .i64 1, .slice a fs.length c, .slice ab nb cb', .bool cl] ∧ Up w w2) (by kernel_rfl) ⟨HAd.out, HUd.out⟩ (fun hS => ?_)
                    refine wpAnyH_take (i := 0) (oi := { dst := some 57, op := Go.Op.fieldAddr 51 (Go.Operand.tmp 1) 1, type := 0, pos := "print.go:226", after := #[], guard := none }) (v := .pointer (some ⟨w.heap.size, 1, none⟩)) rfl (by kernel_rfl) (by kernel_rfl) (by kernel_rfl) (fun _ _ _ h => h) (Or.inl ⟨by kernel_rfl, ?_⟩) hS ?_
                    · intro w5 hSw
                      clear hSw hS
                      go_simp
                    simp only [Act.put, List.setIfInBounds_toArray, List.set_cons_zero, List.set_cons_succ]
                    refine wpAnyH_take (i := 1) (oi := { dst := some 58, op := Go.Op.load 3 (Go.Operand.tmp 57), type := 3, pos := "print.go:226", after := #[{ on := 0, ground := Go.Ground.data }], guard := none }) (v := .int .i64 1) rfl (by kernel_rfl) (by kernel_rfl) (by kernel_rfl) (fun _ _ _ h => h) (Or.inl ⟨by kernel_rfl, ?_⟩) hS ?_
                    · intro w5 hSw
                      have h0 := hSw.1.cell (i := 1) rfl
                      clear hSw hS
                      go_simp
                    simp only [Act.put, List.setIfInBounds_toArray, List.set_cons_zero, List.set_cons_succ]
                    refine wpAnyH_take (i := 5) (oi := { dst := some 62, op := Go.Op.fieldAddr 51 (Go.Operand.tmp 1) 0, type := 0, pos := "print.go:226", after := #[], guard := none }) (v := .pointer (some ⟨w.heap.size, 0, none⟩)) rfl (by kernel_rfl) (by kernel_rfl) (by kernel_rfl) (fun _ _ _ h => h) (Or.inl ⟨by kernel_rfl, ?_⟩) hS ?_
                    · intro w5 hSw
                      clear hSw hS
                      go_simp
                    simp only [Act.put, List.setIfInBounds_toArray, List.set_cons_zero, List.set_cons_succ]
                    refine wpAnyH_take (i := 6) (oi := { dst := some 63, op := Go.Op.load 3 (Go.Operand.tmp 62), type := 3, pos := "print.go:226", after := #[{ on := 5, ground := Go.Ground.data }], guard := none }) (v := .int .i64 st) rfl (by kernel_rfl) (by kernel_rfl) (by kernel_rfl) (fun _ _ _ h => h) (Or.inl ⟨by kernel_rfl, ?_⟩) hS ?_
                    · intro w5 hSw
                      have h0 := hSw.1.cell (i := 0) rfl
                      clear hSw hS
                      go_simp
                    simp only [Act.put, List.setIfInBounds_toArray, List.set_cons_zero, List.set_cons_succ]
                    refine wpAnyH_take (i := 10) (oi := { dst := some 67, op := Go.Op.fieldAddr 51 (Go.Operand.tmp 1) 0, type := 0, pos := "print.go:226", after := #[], guard := none }) (v := .pointer (some ⟨w.heap.size, 0, none⟩)) rfl (by kernel_rfl) (by kernel_rfl) (by kernel_rfl) (fun _ _ _ h => h) (Or.inl ⟨by kernel_rfl, ?_⟩) hS ?_
                    · intro w5 hSw
                      clear hSw hS
                      go_simp
                    simp only [Act.put, List.setIfInBounds_toArray, List.set_cons_zero, List.set_cons_succ]
                    refine wpAnyH_take (i := 11) (oi := { dst := some 68, op := Go.Op.load 3 (Go.Operand.tmp 67), type := 3, pos := "print.go:226", after := #[{ on := 10, ground := Go.Ground.data }], guard := none }) (v := .int .i64 st) rfl (by kernel_rfl) (by kernel_rfl) (by kernel_rfl) (fun _ _ _ h => h) (Or.inl ⟨by kernel_rfl, ?_⟩) hS ?_
                    · intro w5 hSw
                      have h0 := hSw.1.cell (i := 0) rfl
                      clear hSw hS
                      go_simp
                    simp only [Act.put, List.setIfInBounds_toArray, List.set_cons_zero, List.set_cons_succ]
                    refine wpAnyH_ready (rs := [2]) (by kernel_rfl) (by simp) ?_
                    refine AllReadyH.cons (o := { dst := some 59, op := Go.Op.call { callee := Go.Callee.value (Go.Operand.func 31), args := #[Go.Operand.tmp 58], argTypes := #[2] }, type := 9, pos := "print.go:226", after := #[{ on := 1, ground := Go.Ground.data }], guard := none }) rfl (fun K hK => ?_) AllReadyH.nil
                    rw [if_pos (by kernel_rfl)]
                    go_simp
                    refine (HFm.out w8.drew).mono ?_
                    rintro e w10 ⟨rfl, h9⟩
                    have HU10 := Hid.of (HUd.out.trans h9)
                    have HA10 := Hid.of (HAd.out.up h9)
                    have HF10 := Hid.of (HFd.out.up h9)
                    clear h9 hS
                    dsimp only
                    refine hK.out _ _ ⟨HA10.out, HU10.out⟩ (fun hS => ?_)
                    clear hK K
                    refine wpAnyH_take (i := 3) (oi := { dst := some 60, op := Go.Op.binOp Go.BinOp.add 9 (Go.Operand.const (Go.Value.string { data := #[72, 84, 84, 80, 47, 49, 46] })) (Go.Operand.tmp 59) 9, type := 9, pos := "print.go:226", after := #[{ on := 2, ground := Go.Ground.data }], guard := none }) (v := .string ((⟨#[72, 84, 84, 80, 47, 49, 46]⟩ : ByteArray) ++ vt)) rfl (by kernel_rfl) (by kernel_rfl) (by kernel_rfl) (fun _ _ _ h => h) (Or.inl ⟨by kernel_rfl, ?_⟩) hS ?_
                    · intro w5 hSw
                      clear hSw hS
                      have hvz := HVz.out
                      have hsz := HSz.out
                      have hrz := HRz.out
                      go_simp
                    simp only [Act.put, List.setIfInBounds_toArray, List.set_cons_zero, List.set_cons_succ]
                    refine wpAnyH_take (i := 4) (oi := { dst := some 61, op := Go.Op.binOp Go.BinOp.add 9 (Go.Operand.tmp 60) (Go.Operand.const (Go.Value.string { data := #[32] })) 9, type := 9, pos := "print.go:226", after := #[{ on := 3, ground := Go.Ground.data }], guard := none }) (v := .string ((⟨#[72, 84, 84, 80, 47, 49, 46]⟩ : ByteArray) ++ vt ++ (⟨#[32]⟩ : ByteArray))) rfl (by kernel_rfl) (by kernel_rfl) (by kernel_rfl) (fun _ _ _ h => h) (Or.inl ⟨by kernel_rfl, ?_⟩) hS ?_
                    · intro w5 hSw
                      clear hSw hS
                      have hvz := HVz.out
                      have hsz := HSz.out
                      have hrz := HRz.out
                      go_simp
                    simp only [Act.put, List.setIfInBounds_toArray, List.set_cons_zero, List.set_cons_succ]
                    refine wpAnyH_ready (rs := [7]) (by kernel_rfl) (by simp) ?_
                    refine AllReadyH.cons (o := { dst := some 64, op := Go.Op.call { callee := Go.Callee.value (Go.Operand.func 31), args := #[Go.Operand.tmp 63], argTypes := #[2] }, type := 9, pos := "print.go:226", after := #[{ on := 6, ground := Go.Ground.data }, { on := 2, ground := Go.Ground.chain }], guard := none }) rfl (fun K hK => ?_) AllReadyH.nil
                    rw [if_pos (by kernel_rfl)]
                    go_simp
                    refine (HFs.out w10).mono ?_
                    rintro e w11 ⟨rfl, h9⟩
                    have HU11 := Hid.of (HU10.out.trans h9)
                    have HA11 := Hid.of (HA10.out.up h9)
                    have HF11 := Hid.of (HF10.out.up h9)
                    clear h9 hS
                    dsimp only
                    refine hK.out _ _ ⟨HA11.out, HU11.out⟩ (fun hS => ?_)
                    clear hK K
                    refine wpAnyH_take (i := 8) (oi := { dst := some 65, op := Go.Op.binOp Go.BinOp.add 9 (Go.Operand.tmp 61) (Go.Operand.tmp 64) 9, type := 9, pos := "print.go:226", after := #[{ on := 4, ground := Go.Ground.data }, { on := 7, ground := Go.Ground.data }], guard := none }) (v := .string ((⟨#[72, 84, 84, 80, 47, 49, 46]⟩ : ByteArray) ++ vt ++ (⟨#[32]⟩ : ByteArray) ++ sx)) rfl (by kernel_rfl) (by kernel_rfl) (by kernel_rfl) (fun _ _ _ h => h) (Or.inl ⟨by kernel_rfl, ?_⟩) hS ?_
                    · intro w5 hSw
                      clear hSw hS
                      have hvz := HVz.out
                      have hsz := HSz.out
                      have hrz := HRz.out
                      go_simp
                    simp only [Act.put, List.setIfInBounds_toArray, List.set_cons_zero, List.set_cons_succ]
                    refine wpAnyH_take (i := 9) (oi := { dst := some 66, op := Go.Op.binOp Go.BinOp.add 9 (Go.Operand.tmp 65) (Go.Operand.const (Go.Value.string { data := #[32] })) 9, type := 9, pos := "print.go:226", after := #[{ on := 8, ground := Go.Ground.data }], guard := none }) (v := .string ((⟨#[72, 84, 84, 80, 47, 49, 46]⟩ : ByteArray) ++ vt ++ (⟨#[32]⟩ : ByteArray) ++ sx ++ (⟨#[32]⟩ : ByteArray))) rfl (by kernel_rfl) (by kernel_rfl) (by kernel_rfl) (fun _ _ _ h => h) (Or.inl ⟨by kernel_rfl, ?_⟩) hS ?_
                    · intro w5 hSw
                      clear hSw hS
                      have hvz := HVz.out
                      have hsz := HSz.out
                      have hrz := HRz.out
                      go_simp
                    simp only [Act.put, List.setIfInBounds_toArray, List.set_cons_zero, List.set_cons_succ]
                    refine wpAnyH_ready (rs := [12]) (by kernel_rfl) (by simp) ?_
                    refine AllReadyH.cons (o := { dst := some 69, op := Go.Op.call { callee := Go.Callee.value (Go.Operand.func 46), args := #[Go.Operand.tmp 68], argTypes := #[3] }, type := 9, pos := "print.go:226", after := #[{ on := 11, ground := Go.Ground.data }, { on := 7, ground := Go.Ground.chain }], guard := none }) rfl (fun K hK => ?_) AllReadyH.nil
                    rw [if_pos (by kernel_rfl)]
                    go_simp
                    refine (HRr.out w11 HU11.out).mono ?_
                    rintro e w12 ⟨rfl, h9⟩
                    have HU12 := Hid.of (HU11.out.trans h9)
                    have HA12 := Hid.of (HA11.out.up h9)
                    have HF12 := Hid.of (HF11.out.up h9)
                    clear h9 hS
                    dsimp only
                    refine hK.out _ _ ⟨HA12.out, HU12.out⟩ (fun hS => ?_)
                    clear hK K
                    refine wpAnyH_take (i := 13) (oi := { dst := some 70, op := Go.Op.binOp Go.BinOp.add 9 (Go.Operand.tmp 66) (Go.Operand.tmp 69) 9, type := 9, pos := "print.go:226", after := #[{ on := 9, ground := Go.Ground.data }, { on := 12, ground := Go.Ground.data }], guard := none }) (v := .string ((⟨#[72, 84, 84, 80, 47, 49, 46]⟩ : ByteArray) ++ vt ++ (⟨#[32]⟩ : ByteArray) ++ sx ++ (⟨#[32]⟩ : ByteArray) ++ rx)) rfl (by kernel_rfl) (by kernel_rfl) (by kernel_rfl) (fun _ _ _ h => h) (Or.inl ⟨by kernel_rfl, ?_⟩) hS ?_
                    · intro w5 hSw
                      clear hSw hS
                      have hvz := HVz.out
                      have hsz := HSz.out
                      have hrz := HRz.out
                      go_simp
                    simp only [Act.put, List.setIfInBounds_toArray, List.set_cons_zero, List.set_cons_succ]
                    refine wpAnyH_take (i := 14) (oi := { dst := some 8, op := Go.Op.assign (Go.Operand.tmp 70), type := 9, pos := "print.go:226", after := #[{ on := 13, ground := Go.Ground.data }, { on := 12, ground := Go.Ground.chain }, { on := 0, ground := Go.Ground.phase }, { on := 1, ground := Go.Ground.phase }, { on := 2, ground := Go.Ground.phase }, { on := 3, ground := Go.Ground.phase }, { on := 4, ground := Go.Ground.phase }, { on := 5, ground := Go.Ground.phase }, { on := 6, ground := Go.Ground.phase }, { on := 7, ground := Go.Ground.phase }, { on := 8, ground := Go.Ground.phase }, { on := 9, ground := Go.Ground.phase }, { on := 10, ground := Go.Ground.phase }, { on := 11, ground := Go.Ground.phase }, { on := 12, ground := Go.Ground.phase }, { on := 13, ground := Go.Ground.phase }], guard := none }) (v := .string ((⟨#[72, 84, 84, 80, 47, 49, 46]⟩ : ByteArray) ++ vt ++ (⟨#[32]⟩ : ByteArray) ++ sx ++ (⟨#[32]⟩ : ByteArray) ++ rx)) rfl (by kernel_rfl) (by kernel_rfl) (by kernel_rfl) (fun _ _ _ h => h) (Or.inl ⟨by kernel_rfl, ?_⟩) hS ?_
                    · intro w5 hSw
                      clear hSw hS
                      go_simp
                    simp only [Act.put, List.setIfInBounds_toArray, List.set_cons_zero, List.set_cons_succ]
                    clear hS
                    refine wpAnyH_done (by kernel_rfl) ?_ _
                    generalize (⟨#[72, 84, 84, 80, 47, 49, 46]⟩ : ByteArray) ++ vt ++ (⟨#[32]⟩ : ByteArray) ++ sx ++ (⟨#[32]⟩ : ByteArray) ++ rx = fst at HSd HSs ⊢
                    have hbl2 : bd.length ≤ 1048576 := by have := HBn.out; omega
                    have hfl : fst.size ≤ 1048576 := by rw [HSs.out]; exact Nat.le_trans HNo.out (by decide)
                    have c3 := HA12.out.cell (i := 3) rfl
                    go_wp2_with fail
                    refine (HLd.out fst _ _ _ HF12.out (HB.out.up HU12.out) hfl (by omega) hbl2).mono ?_
                    rintro e w13 ⟨⟨a8, c8, rfl, hO8⟩, h9⟩
                    have HU13 := Hid.of (HU12.out.trans h9)
                    have HO8 := Hid.of hO8.out
                    clear h9 hO8
                    rw [HSd.out] at HO8 ⊢
                    dsimp only
                    have HE := Hid.of (show rv = .ok (prt (raS st 1) F bd) by rw [HRv.out, ← HC.out, if_neg hbl, if_neg HB0.out]; rfl)
                    go_wp2
                    go_ret2
                    rw [HE.out]
                    exact ⟨⟨a8, c8, rfl, Hid.of HO8.out⟩, HU13.out⟩
        · have q0 : (mi == 0) = false := beq_eq_false_iff_ne.2 hm2
          have q1 : (mi == 1) = false := beq_eq_false_iff_ne.2 hm3
          have q2 : (mi != 0) = true := by rw [bne, q0]; rfl
          have q3 : (mi != 1) = true := by rw [bne, q1]; rfl
          have HMf := Hid.of (show mnr mi = false by rw [mnr_eq, q0, q1]; rfl)
          have HE := Hid.of (show rv = .error 4 by rw [HRv.out, ← HC.out, if_pos HMf.out]; rfl)
          go_wp2
          go_ret2
          rw [HE.out]
          exact ⟨rfl, HU4.out⟩
  | false =>
    have HT := Hid.of (show tld fs (nb : Int) = F by rw [HT1.out, ← HF1, if_neg (by rw [hno]; simp)])
    have HNb := Hid.of hno
    clear HT0 HT1 HF1 hno
    have c2 := HA0.out.cell (i := 2) rfl
    go_wp2_with fail
    refine (Rprinted_walk a fs c (nb : Int) w1 (HF.out.up HU0.out) (by omega) (by omega) (by omega)).mono ?_
    rintro e w2 ⟨⟨a2, c2', rfl, hO2⟩, h9⟩
    have HU2 := Hid.of (HU0.out.trans h9)
    have HA2 := Hid.of (HA0.out.up h9)
    have hO3 := hO2.out.fdl
    rw [HT.out] at hO3 ⊢
    have HF2 := Hid.of hO3
    have hcap2 := hO3.cap
    rw [HNF.out] at hcap2 ⊢
    clear h9 hO2 hO3 c2 c0 c3 HT
    dsimp only
    go_wp2_with fail
    refine (HHb.out _ _ _ HF2.out).mono ?_
    rintro e w4 ⟨rfl, h9⟩
    have HU4 := Hid.of (HU2.out.trans h9)
    have HA4 := Hid.of (HA2.out.up h9)
    have HF4 := Hid.of (HF2.out.up h9)
    clear h9
    dsimp only
    by_cases h2 : 16384 < z
    · have h2z : (16384 : Int) < (z : Int) := by omega
      have HE := Hid.of (show rv = .error 1 by rw [HRv.out, ← HC.out, if_pos h2]; rfl)
      go_wp2
      go_ret2
      rw [HE.out]
      exact ⟨rfl, HU4.out⟩
    · have h2z : ¬ (16384 : Int) < (z : Int) := by omega
      rw [if_neg h2] at HC
      have c1 := HA4.out.cell (i := 1) rfl
      by_cases hm2 : mi = 0
      · subst hm2
        rw [if_neg (show ¬ mnr 0 = false by decide)] at HC
        have c0 := HA4.out.cell (i := 0) rfl
        by_cases ht1 : st < 100
        · have HSf := Hid.of (show sto st = false by unfold sto; rw [decide_eq_false (show ¬ 100 ≤ st by omega)]; rfl)
          have HE := Hid.of (show rv = .error 11 by rw [HRv.out, ← HC.out, if_pos HSf.out]; rfl)
          go_wp2
          go_ret2
          rw [HE.out]
          exact ⟨rfl, HU4.out⟩
        · by_cases ht2 : 599 < st
          · have HSf := Hid.of (show sto st = false by unfold sto; rw [decide_eq_false (show ¬ st ≤ 599 by omega), Bool.and_false])
            have HE := Hid.of (show rv = .error 11 by rw [HRv.out, ← HC.out, if_pos HSf.out]; rfl)
            go_wp2
            go_ret2
            rw [HE.out]
            exact ⟨rfl, HU4.out⟩
          · have HSt := Hid.of (show sto st = true by unfold sto; rw [decide_eq_true (show 100 ≤ st by omega), decide_eq_true (show st ≤ 599 by omega)]; rfl)
            rw [if_neg (by rw [HSt.out]; simp)] at HC
            go_wp2_with fail
            refine (HCf.out _ _ _ HF4.out).mono ?_
            rintro e w8 ⟨rfl, h9⟩
            have HU8 := Hid.of (HU4.out.trans h9)
            have HA8 := Hid.of (HA4.out.up h9)
            have HF8 := Hid.of (HF4.out.up h9)
            clear h9
            dsimp only
            clear c0
            cases hcf : ckf F with
            | some k =>
              have hkz := nums_ne (ckf_lt hcf)
              have HE := Hid.of (show rv = .error k by rw [HRv.out, ← HC.out, hcf]; rfl)
              clear hcf
              rw [show ckN (some k) = nums k from rfl]
              go_wp2
              go_ret2
              rw [HE.out]
              exact ⟨rfl, HU8.out⟩
            | none =>
              rw [hcf] at HC
              rw [show ckN none = 0 from rfl]
              clear hcf
              have c3 := HA8.out.cell (i := 3) rfl
              by_cases hbl : 1048576 < nb
              · have hblz : (1048576 : Int) < (nb : Int) := by omega
                have HE := Hid.of (show rv = .error 7 by rw [HRv.out, ← HC.out, if_pos hbl]; rfl)
                go_wp2
                go_ret2
                rw [HE.out]
                exact ⟨rfl, HU8.out⟩
              · have hblz : ¬ (1048576 : Int) < (nb : Int) := by omega
                have HB0 := Hid.of (show ¬ (0 < nb ∧ bdl st = true) by rw [HNb.out]; simp)
                have HNo := Hid.of (raS_no HSt.out (show mnr 0 = true by decide)).2
                go_wp2
                clear c3
                have HUd := Hid.of HU8.out.drew
                have HAd := Hid.of (HA8.out.up (Up.refl _).drew)
                have HFd := Hid.of (HF8.out.up (Up.refl _).drew)
                refine wp_region_held_drew (S := fun w2 => At w2 w.heap.size 51 [.int .i64 st, .int .i64 0, .slice a fs.length c, .slice ab nb cb', .bool cl] ∧ Up w w2) (by kernel_rfl) ⟨HAd.out, HUd.out⟩ (fun hS => ?_)
                refine wpAnyH_take (i := 0) (oi := { dst := some 57, op := Go.Op.fieldAddr 51 (Go.Operand.tmp 1) 1, type := 0, pos := "print.go:226", after := #[], guard := none }) (v := .pointer (some ⟨w.heap.size, 1, none⟩)) rfl (by kernel_rfl) (by kernel_rfl) (by kernel_rfl) (fun _ _ _ h => h) (Or.inl ⟨by kernel_rfl, ?_⟩) hS ?_
                · intro w5 hSw
                  clear hSw hS
                  go_simp
                simp only [Act.put, List.setIfInBounds_toArray, List.set_cons_zero, List.set_cons_succ]
                refine wpAnyH_take (i := 1) (oi := { dst := some 58, op := Go.Op.load 3 (Go.Operand.tmp 57), type := 3, pos := "print.go:226", after := #[{ on := 0, ground := Go.Ground.data }], guard := none }) (v := .int .i64 0) rfl (by kernel_rfl) (by kernel_rfl) (by kernel_rfl) (fun _ _ _ h => h) (Or.inl ⟨by kernel_rfl, ?_⟩) hS ?_
                · intro w5 hSw
                  have h0 := hSw.1.cell (i := 1) rfl
                  clear hSw hS
                  go_simp
                simp only [Act.put, List.setIfInBounds_toArray, List.set_cons_zero, List.set_cons_succ]
                refine wpAnyH_take (i := 5) (oi := { dst := some 62, op := Go.Op.fieldAddr 51 (Go.Operand.tmp 1) 0, type := 0, pos := "print.go:226", after := #[], guard := none }) (v := .pointer (some ⟨w.heap.size, 0, none⟩)) rfl (by kernel_rfl) (by kernel_rfl) (by kernel_rfl) (fun _ _ _ h => h) (Or.inl ⟨by kernel_rfl, ?_⟩) hS ?_
                · intro w5 hSw
                  clear hSw hS
                  go_simp
                simp only [Act.put, List.setIfInBounds_toArray, List.set_cons_zero, List.set_cons_succ]
                refine wpAnyH_take (i := 6) (oi := { dst := some 63, op := Go.Op.load 3 (Go.Operand.tmp 62), type := 3, pos := "print.go:226", after := #[{ on := 5, ground := Go.Ground.data }], guard := none }) (v := .int .i64 st) rfl (by kernel_rfl) (by kernel_rfl) (by kernel_rfl) (fun _ _ _ h => h) (Or.inl ⟨by kernel_rfl, ?_⟩) hS ?_
                · intro w5 hSw
                  have h0 := hSw.1.cell (i := 0) rfl
                  clear hSw hS
                  go_simp
                simp only [Act.put, List.setIfInBounds_toArray, List.set_cons_zero, List.set_cons_succ]
                refine wpAnyH_take (i := 10) (oi := { dst := some 67, op := Go.Op.fieldAddr 51 (Go.Operand.tmp 1) 0, type := 0, pos := "print.go:226", after := #[], guard := none }) (v := .pointer (some ⟨w.heap.size, 0, none⟩)) rfl (by kernel_rfl) (by kernel_rfl) (by kernel_rfl) (fun _ _ _ h => h) (Or.inl ⟨by kernel_rfl, ?_⟩) hS ?_
                · intro w5 hSw
                  clear hSw hS
                  go_simp
                simp only [Act.put, List.setIfInBounds_toArray, List.set_cons_zero, List.set_cons_succ]
                refine wpAnyH_take (i := 11) (oi := { dst := some 68, op := Go.Op.load 3 (Go.Operand.tmp 67), type := 3, pos := "print.go:226", after := #[{ on := 10, ground := Go.Ground.data }], guard := none }) (v := .int .i64 st) rfl (by kernel_rfl) (by kernel_rfl) (by kernel_rfl) (fun _ _ _ h => h) (Or.inl ⟨by kernel_rfl, ?_⟩) hS ?_
                · intro w5 hSw
                  have h0 := hSw.1.cell (i := 0) rfl
                  clear hSw hS
                  go_simp
                simp only [Act.put, List.setIfInBounds_toArray, List.set_cons_zero, List.set_cons_succ]
                refine wpAnyH_ready (rs := [2]) (by kernel_rfl) (by simp) ?_
                refine AllReadyH.cons (o := { dst := some 59, op := Go.Op.call { callee := Go.Callee.value (Go.Operand.func 31), args := #[Go.Operand.tmp 58], argTypes := #[2] }, type := 9, pos := "print.go:226", after := #[{ on := 1, ground := Go.Ground.data }], guard := none }) rfl (fun K hK => ?_) AllReadyH.nil
                rw [if_pos (by kernel_rfl)]
                go_simp
                refine (HFm.out w8.drew).mono ?_
                rintro e w10 ⟨rfl, h9⟩
                have HU10 := Hid.of (HUd.out.trans h9)
                have HA10 := Hid.of (HAd.out.up h9)
                have HF10 := Hid.of (HFd.out.up h9)
                clear h9 hS
                dsimp only
                refine hK.out _ _ ⟨HA10.out, HU10.out⟩ (fun hS => ?_)
                clear hK K
                refine wpAnyH_take (i := 3) (oi := { dst := some 60, op := Go.Op.binOp Go.BinOp.add 9 (Go.Operand.const (Go.Value.string { data := #[72, 84, 84, 80, 47, 49, 46] })) (Go.Operand.tmp 59) 9, type := 9, pos := "print.go:226", after := #[{ on := 2, ground := Go.Ground.data }], guard := none }) (v := .string ((⟨#[72, 84, 84, 80, 47, 49, 46]⟩ : ByteArray) ++ vt)) rfl (by kernel_rfl) (by kernel_rfl) (by kernel_rfl) (fun _ _ _ h => h) (Or.inl ⟨by kernel_rfl, ?_⟩) hS ?_
                · intro w5 hSw
                  clear hSw hS
                  have hvz := HVz.out
                  have hsz := HSz.out
                  have hrz := HRz.out
                  go_simp
                simp only [Act.put, List.setIfInBounds_toArray, List.set_cons_zero, List.set_cons_succ]
                refine wpAnyH_take (i := 4) (oi := { dst := some 61, op := Go.Op.binOp Go.BinOp.add 9 (Go.Operand.tmp 60) (Go.Operand.const (Go.Value.string { data := #[32] })) 9, type := 9, pos := "print.go:226", after := #[{ on := 3, ground := Go.Ground.data }], guard := none }) (v := .string ((⟨#[72, 84, 84, 80, 47, 49, 46]⟩ : ByteArray) ++ vt ++ (⟨#[32]⟩ : ByteArray))) rfl (by kernel_rfl) (by kernel_rfl) (by kernel_rfl) (fun _ _ _ h => h) (Or.inl ⟨by kernel_rfl, ?_⟩) hS ?_
                · intro w5 hSw
                  clear hSw hS
                  have hvz := HVz.out
                  have hsz := HSz.out
                  have hrz := HRz.out
                  go_simp
                simp only [Act.put, List.setIfInBounds_toArray, List.set_cons_zero, List.set_cons_succ]
                refine wpAnyH_ready (rs := [7]) (by kernel_rfl) (by simp) ?_
                refine AllReadyH.cons (o := { dst := some 64, op := Go.Op.call { callee := Go.Callee.value (Go.Operand.func 31), args := #[Go.Operand.tmp 63], argTypes := #[2] }, type := 9, pos := "print.go:226", after := #[{ on := 6, ground := Go.Ground.data }, { on := 2, ground := Go.Ground.chain }], guard := none }) rfl (fun K hK => ?_) AllReadyH.nil
                rw [if_pos (by kernel_rfl)]
                go_simp
                refine (HFs.out w10).mono ?_
                rintro e w11 ⟨rfl, h9⟩
                have HU11 := Hid.of (HU10.out.trans h9)
                have HA11 := Hid.of (HA10.out.up h9)
                have HF11 := Hid.of (HF10.out.up h9)
                clear h9 hS
                dsimp only
                refine hK.out _ _ ⟨HA11.out, HU11.out⟩ (fun hS => ?_)
                clear hK K
                refine wpAnyH_take (i := 8) (oi := { dst := some 65, op := Go.Op.binOp Go.BinOp.add 9 (Go.Operand.tmp 61) (Go.Operand.tmp 64) 9, type := 9, pos := "print.go:226", after := #[{ on := 4, ground := Go.Ground.data }, { on := 7, ground := Go.Ground.data }], guard := none }) (v := .string ((⟨#[72, 84, 84, 80, 47, 49, 46]⟩ : ByteArray) ++ vt ++ (⟨#[32]⟩ : ByteArray) ++ sx)) rfl (by kernel_rfl) (by kernel_rfl) (by kernel_rfl) (fun _ _ _ h => h) (Or.inl ⟨by kernel_rfl, ?_⟩) hS ?_
                · intro w5 hSw
                  clear hSw hS
                  have hvz := HVz.out
                  have hsz := HSz.out
                  have hrz := HRz.out
                  go_simp
                simp only [Act.put, List.setIfInBounds_toArray, List.set_cons_zero, List.set_cons_succ]
                refine wpAnyH_take (i := 9) (oi := { dst := some 66, op := Go.Op.binOp Go.BinOp.add 9 (Go.Operand.tmp 65) (Go.Operand.const (Go.Value.string { data := #[32] })) 9, type := 9, pos := "print.go:226", after := #[{ on := 8, ground := Go.Ground.data }], guard := none }) (v := .string ((⟨#[72, 84, 84, 80, 47, 49, 46]⟩ : ByteArray) ++ vt ++ (⟨#[32]⟩ : ByteArray) ++ sx ++ (⟨#[32]⟩ : ByteArray))) rfl (by kernel_rfl) (by kernel_rfl) (by kernel_rfl) (fun _ _ _ h => h) (Or.inl ⟨by kernel_rfl, ?_⟩) hS ?_
                · intro w5 hSw
                  clear hSw hS
                  have hvz := HVz.out
                  have hsz := HSz.out
                  have hrz := HRz.out
                  go_simp
                simp only [Act.put, List.setIfInBounds_toArray, List.set_cons_zero, List.set_cons_succ]
                refine wpAnyH_ready (rs := [12]) (by kernel_rfl) (by simp) ?_
                refine AllReadyH.cons (o := { dst := some 69, op := Go.Op.call { callee := Go.Callee.value (Go.Operand.func 46), args := #[Go.Operand.tmp 68], argTypes := #[3] }, type := 9, pos := "print.go:226", after := #[{ on := 11, ground := Go.Ground.data }, { on := 7, ground := Go.Ground.chain }], guard := none }) rfl (fun K hK => ?_) AllReadyH.nil
                rw [if_pos (by kernel_rfl)]
                go_simp
                refine (HRr.out w11 HU11.out).mono ?_
                rintro e w12 ⟨rfl, h9⟩
                have HU12 := Hid.of (HU11.out.trans h9)
                have HA12 := Hid.of (HA11.out.up h9)
                have HF12 := Hid.of (HF11.out.up h9)
                clear h9 hS
                dsimp only
                refine hK.out _ _ ⟨HA12.out, HU12.out⟩ (fun hS => ?_)
                clear hK K
                refine wpAnyH_take (i := 13) (oi := { dst := some 70, op := Go.Op.binOp Go.BinOp.add 9 (Go.Operand.tmp 66) (Go.Operand.tmp 69) 9, type := 9, pos := "print.go:226", after := #[{ on := 9, ground := Go.Ground.data }, { on := 12, ground := Go.Ground.data }], guard := none }) (v := .string ((⟨#[72, 84, 84, 80, 47, 49, 46]⟩ : ByteArray) ++ vt ++ (⟨#[32]⟩ : ByteArray) ++ sx ++ (⟨#[32]⟩ : ByteArray) ++ rx)) rfl (by kernel_rfl) (by kernel_rfl) (by kernel_rfl) (fun _ _ _ h => h) (Or.inl ⟨by kernel_rfl, ?_⟩) hS ?_
                · intro w5 hSw
                  clear hSw hS
                  have hvz := HVz.out
                  have hsz := HSz.out
                  have hrz := HRz.out
                  go_simp
                simp only [Act.put, List.setIfInBounds_toArray, List.set_cons_zero, List.set_cons_succ]
                refine wpAnyH_take (i := 14) (oi := { dst := some 8, op := Go.Op.assign (Go.Operand.tmp 70), type := 9, pos := "print.go:226", after := #[{ on := 13, ground := Go.Ground.data }, { on := 12, ground := Go.Ground.chain }, { on := 0, ground := Go.Ground.phase }, { on := 1, ground := Go.Ground.phase }, { on := 2, ground := Go.Ground.phase }, { on := 3, ground := Go.Ground.phase }, { on := 4, ground := Go.Ground.phase }, { on := 5, ground := Go.Ground.phase }, { on := 6, ground := Go.Ground.phase }, { on := 7, ground := Go.Ground.phase }, { on := 8, ground := Go.Ground.phase }, { on := 9, ground := Go.Ground.phase }, { on := 10, ground := Go.Ground.phase }, { on := 11, ground := Go.Ground.phase }, { on := 12, ground := Go.Ground.phase }, { on := 13, ground := Go.Ground.phase }], guard := none }) (v := .string ((⟨#[72, 84, 84, 80, 47, 49, 46]⟩ : ByteArray) ++ vt ++ (⟨#[32]⟩ : ByteArray) ++ sx ++ (⟨#[32]⟩ : ByteArray) ++ rx)) rfl (by kernel_rfl) (by kernel_rfl) (by kernel_rfl) (fun _ _ _ h => h) (Or.inl ⟨by kernel_rfl, ?_⟩) hS ?_
                · intro w5 hSw
                  clear hSw hS
                  go_simp
                simp only [Act.put, List.setIfInBounds_toArray, List.set_cons_zero, List.set_cons_succ]
                clear hS
                refine wpAnyH_done (by kernel_rfl) ?_ _
                generalize (⟨#[72, 84, 84, 80, 47, 49, 46]⟩ : ByteArray) ++ vt ++ (⟨#[32]⟩ : ByteArray) ++ sx ++ (⟨#[32]⟩ : ByteArray) ++ rx = fst at HSd HSs ⊢
                have hbl2 : bd.length ≤ 1048576 := by have := HBn.out; omega
                have hfl : fst.size ≤ 1048576 := by rw [HSs.out]; exact Nat.le_trans HNo.out (by decide)
                have c3 := HA12.out.cell (i := 3) rfl
                go_wp2_with fail
                refine (HLd.out fst _ _ _ HF12.out (HB.out.up HU12.out) hfl (by omega) hbl2).mono ?_
                rintro e w13 ⟨⟨a8, c8, rfl, hO8⟩, h9⟩
                have HU13 := Hid.of (HU12.out.trans h9)
                have HO8 := Hid.of hO8.out
                clear h9 hO8
                rw [HSd.out] at HO8 ⊢
                dsimp only
                have HE := Hid.of (show rv = .ok (prt (raS st 0) F bd) by rw [HRv.out, ← HC.out, if_neg hbl, if_neg HB0.out]; rfl)
                go_wp2
                go_ret2
                rw [HE.out]
                exact ⟨⟨a8, c8, rfl, Hid.of HO8.out⟩, HU13.out⟩
      · by_cases hm3 : mi = 1
        · subst hm3
          rw [if_neg (show ¬ mnr 1 = false by decide)] at HC
          have c0 := HA4.out.cell (i := 0) rfl
          by_cases ht1 : st < 100
          · have HSf := Hid.of (show sto st = false by unfold sto; rw [decide_eq_false (show ¬ 100 ≤ st by omega)]; rfl)
            have HE := Hid.of (show rv = .error 11 by rw [HRv.out, ← HC.out, if_pos HSf.out]; rfl)
            go_wp2
            go_ret2
            rw [HE.out]
            exact ⟨rfl, HU4.out⟩
          · by_cases ht2 : 599 < st
            · have HSf := Hid.of (show sto st = false by unfold sto; rw [decide_eq_false (show ¬ st ≤ 599 by omega), Bool.and_false])
              have HE := Hid.of (show rv = .error 11 by rw [HRv.out, ← HC.out, if_pos HSf.out]; rfl)
              go_wp2
              go_ret2
              rw [HE.out]
              exact ⟨rfl, HU4.out⟩
            · have HSt := Hid.of (show sto st = true by unfold sto; rw [decide_eq_true (show 100 ≤ st by omega), decide_eq_true (show st ≤ 599 by omega)]; rfl)
              rw [if_neg (by rw [HSt.out]; simp)] at HC
              go_wp2_with fail
              refine (HCf.out _ _ _ HF4.out).mono ?_
              rintro e w8 ⟨rfl, h9⟩
              have HU8 := Hid.of (HU4.out.trans h9)
              have HA8 := Hid.of (HA4.out.up h9)
              have HF8 := Hid.of (HF4.out.up h9)
              clear h9
              dsimp only
              clear c0
              cases hcf : ckf F with
              | some k =>
                have hkz := nums_ne (ckf_lt hcf)
                have HE := Hid.of (show rv = .error k by rw [HRv.out, ← HC.out, hcf]; rfl)
                clear hcf
                rw [show ckN (some k) = nums k from rfl]
                go_wp2
                go_ret2
                rw [HE.out]
                exact ⟨rfl, HU8.out⟩
              | none =>
                rw [hcf] at HC
                rw [show ckN none = 0 from rfl]
                clear hcf
                have c3 := HA8.out.cell (i := 3) rfl
                by_cases hbl : 1048576 < nb
                · have hblz : (1048576 : Int) < (nb : Int) := by omega
                  have HE := Hid.of (show rv = .error 7 by rw [HRv.out, ← HC.out, if_pos hbl]; rfl)
                  go_wp2
                  go_ret2
                  rw [HE.out]
                  exact ⟨rfl, HU8.out⟩
                · have hblz : ¬ (1048576 : Int) < (nb : Int) := by omega
                  have HB0 := Hid.of (show ¬ (0 < nb ∧ bdl st = true) by rw [HNb.out]; simp)
                  have HNo := Hid.of (raS_no HSt.out (show mnr 1 = true by decide)).2
                  go_wp2
                  clear c3
                  have HUd := Hid.of HU8.out.drew
                  have HAd := Hid.of (HA8.out.up (Up.refl _).drew)
                  have HFd := Hid.of (HF8.out.up (Up.refl _).drew)
                  refine wp_region_held_drew (S := fun w2 => At w2 w.heap.size 51 [.int .i64 st, .int .i64 1, .slice a fs.length c, .slice ab nb cb', .bool cl] ∧ Up w w2) (by kernel_rfl) ⟨HAd.out, HUd.out⟩ (fun hS => ?_)
                  refine wpAnyH_take (i := 0) (oi := { dst := some 57, op := Go.Op.fieldAddr 51 (Go.Operand.tmp 1) 1, type := 0, pos := "print.go:226", after := #[], guard := none }) (v := .pointer (some ⟨w.heap.size, 1, none⟩)) rfl (by kernel_rfl) (by kernel_rfl) (by kernel_rfl) (fun _ _ _ h => h) (Or.inl ⟨by kernel_rfl, ?_⟩) hS ?_
                  · intro w5 hSw
                    clear hSw hS
                    go_simp
                  simp only [Act.put, List.setIfInBounds_toArray, List.set_cons_zero, List.set_cons_succ]
                  refine wpAnyH_take (i := 1) (oi := { dst := some 58, op := Go.Op.load 3 (Go.Operand.tmp 57), type := 3, pos := "print.go:226", after := #[{ on := 0, ground := Go.Ground.data }], guard := none }) (v := .int .i64 1) rfl (by kernel_rfl) (by kernel_rfl) (by kernel_rfl) (fun _ _ _ h => h) (Or.inl ⟨by kernel_rfl, ?_⟩) hS ?_
                  · intro w5 hSw
                    have h0 := hSw.1.cell (i := 1) rfl
                    clear hSw hS
                    go_simp
                  simp only [Act.put, List.setIfInBounds_toArray, List.set_cons_zero, List.set_cons_succ]
                  refine wpAnyH_take (i := 5) (oi := { dst := some 62, op := Go.Op.fieldAddr 51 (Go.Operand.tmp 1) 0, type := 0, pos := "print.go:226", after := #[], guard := none }) (v := .pointer (some ⟨w.heap.size, 0, none⟩)) rfl (by kernel_rfl) (by kernel_rfl) (by kernel_rfl) (fun _ _ _ h => h) (Or.inl ⟨by kernel_rfl, ?_⟩) hS ?_
                  · intro w5 hSw
                    clear hSw hS
                    go_simp
                  simp only [Act.put, List.setIfInBounds_toArray, List.set_cons_zero, List.set_cons_succ]
                  refine wpAnyH_take (i := 6) (oi := { dst := some 63, op := Go.Op.load 3 (Go.Operand.tmp 62), type := 3, pos := "print.go:226", after := #[{ on := 5, ground := Go.Ground.data }], guard := none }) (v := .int .i64 st) rfl (by kernel_rfl) (by kernel_rfl) (by kernel_rfl) (fun _ _ _ h => h) (Or.inl ⟨by kernel_rfl, ?_⟩) hS ?_
                  · intro w5 hSw
                    have h0 := hSw.1.cell (i := 0) rfl
                    clear hSw hS
                    go_simp
                  simp only [Act.put, List.setIfInBounds_toArray, List.set_cons_zero, List.set_cons_succ]
                  refine wpAnyH_take (i := 10) (oi := { dst := some 67, op := Go.Op.fieldAddr 51 (Go.Operand.tmp 1) 0, type := 0, pos := "print.go:226", after := #[], guard := none }) (v := .pointer (some ⟨w.heap.size, 0, none⟩)) rfl (by kernel_rfl) (by kernel_rfl) (by kernel_rfl) (fun _ _ _ h => h) (Or.inl ⟨by kernel_rfl, ?_⟩) hS ?_
                  · intro w5 hSw
                    clear hSw hS
                    go_simp
                  simp only [Act.put, List.setIfInBounds_toArray, List.set_cons_zero, List.set_cons_succ]
                  refine wpAnyH_take (i := 11) (oi := { dst := some 68, op := Go.Op.load 3 (Go.Operand.tmp 67), type := 3, pos := "print.go:226", after := #[{ on := 10, ground := Go.Ground.data }], guard := none }) (v := .int .i64 st) rfl (by kernel_rfl) (by kernel_rfl) (by kernel_rfl) (fun _ _ _ h => h) (Or.inl ⟨by kernel_rfl, ?_⟩) hS ?_
                  · intro w5 hSw
                    have h0 := hSw.1.cell (i := 0) rfl
                    clear hSw hS
                    go_simp
                  simp only [Act.put, List.setIfInBounds_toArray, List.set_cons_zero, List.set_cons_succ]
                  refine wpAnyH_ready (rs := [2]) (by kernel_rfl) (by simp) ?_
                  refine AllReadyH.cons (o := { dst := some 59, op := Go.Op.call { callee := Go.Callee.value (Go.Operand.func 31), args := #[Go.Operand.tmp 58], argTypes := #[2] }, type := 9, pos := "print.go:226", after := #[{ on := 1, ground := Go.Ground.data }], guard := none }) rfl (fun K hK => ?_) AllReadyH.nil
                  rw [if_pos (by kernel_rfl)]
                  go_simp
                  refine (HFm.out w8.drew).mono ?_
                  rintro e w10 ⟨rfl, h9⟩
                  have HU10 := Hid.of (HUd.out.trans h9)
                  have HA10 := Hid.of (HAd.out.up h9)
                  have HF10 := Hid.of (HFd.out.up h9)
                  clear h9 hS
                  dsimp only
                  refine hK.out _ _ ⟨HA10.out, HU10.out⟩ (fun hS => ?_)
                  clear hK K
                  refine wpAnyH_take (i := 3) (oi := { dst := some 60, op := Go.Op.binOp Go.BinOp.add 9 (Go.Operand.const (Go.Value.string { data := #[72, 84, 84, 80, 47, 49, 46] })) (Go.Operand.tmp 59) 9, type := 9, pos := "print.go:226", after := #[{ on := 2, ground := Go.Ground.data }], guard := none }) (v := .string ((⟨#[72, 84, 84, 80, 47, 49, 46]⟩ : ByteArray) ++ vt)) rfl (by kernel_rfl) (by kernel_rfl) (by kernel_rfl) (fun _ _ _ h => h) (Or.inl ⟨by kernel_rfl, ?_⟩) hS ?_
                  · intro w5 hSw
                    clear hSw hS
                    have hvz := HVz.out
                    have hsz := HSz.out
                    have hrz := HRz.out
                    go_simp
                  simp only [Act.put, List.setIfInBounds_toArray, List.set_cons_zero, List.set_cons_succ]
                  refine wpAnyH_take (i := 4) (oi := { dst := some 61, op := Go.Op.binOp Go.BinOp.add 9 (Go.Operand.tmp 60) (Go.Operand.const (Go.Value.string { data := #[32] })) 9, type := 9, pos := "print.go:226", after := #[{ on := 3, ground := Go.Ground.data }], guard := none }) (v := .string ((⟨#[72, 84, 84, 80, 47, 49, 46]⟩ : ByteArray) ++ vt ++ (⟨#[32]⟩ : ByteArray))) rfl (by kernel_rfl) (by kernel_rfl) (by kernel_rfl) (fun _ _ _ h => h) (Or.inl ⟨by kernel_rfl, ?_⟩) hS ?_
                  · intro w5 hSw
                    clear hSw hS
                    have hvz := HVz.out
                    have hsz := HSz.out
                    have hrz := HRz.out
                    go_simp
                  simp only [Act.put, List.setIfInBounds_toArray, List.set_cons_zero, List.set_cons_succ]
                  refine wpAnyH_ready (rs := [7]) (by kernel_rfl) (by simp) ?_
                  refine AllReadyH.cons (o := { dst := some 64, op := Go.Op.call { callee := Go.Callee.value (Go.Operand.func 31), args := #[Go.Operand.tmp 63], argTypes := #[2] }, type := 9, pos := "print.go:226", after := #[{ on := 6, ground := Go.Ground.data }, { on := 2, ground := Go.Ground.chain }], guard := none }) rfl (fun K hK => ?_) AllReadyH.nil
                  rw [if_pos (by kernel_rfl)]
                  go_simp
                  refine (HFs.out w10).mono ?_
                  rintro e w11 ⟨rfl, h9⟩
                  have HU11 := Hid.of (HU10.out.trans h9)
                  have HA11 := Hid.of (HA10.out.up h9)
                  have HF11 := Hid.of (HF10.out.up h9)
                  clear h9 hS
                  dsimp only
                  refine hK.out _ _ ⟨HA11.out, HU11.out⟩ (fun hS => ?_)
                  clear hK K
                  refine wpAnyH_take (i := 8) (oi := { dst := some 65, op := Go.Op.binOp Go.BinOp.add 9 (Go.Operand.tmp 61) (Go.Operand.tmp 64) 9, type := 9, pos := "print.go:226", after := #[{ on := 4, ground := Go.Ground.data }, { on := 7, ground := Go.Ground.data }], guard := none }) (v := .string ((⟨#[72, 84, 84, 80, 47, 49, 46]⟩ : ByteArray) ++ vt ++ (⟨#[32]⟩ : ByteArray) ++ sx)) rfl (by kernel_rfl) (by kernel_rfl) (by kernel_rfl) (fun _ _ _ h => h) (Or.inl ⟨by kernel_rfl, ?_⟩) hS ?_
                  · intro w5 hSw
                    clear hSw hS
                    have hvz := HVz.out
                    have hsz := HSz.out
                    have hrz := HRz.out
                    go_simp
                  simp only [Act.put, List.setIfInBounds_toArray, List.set_cons_zero, List.set_cons_succ]
                  refine wpAnyH_take (i := 9) (oi := { dst := some 66, op := Go.Op.binOp Go.BinOp.add 9 (Go.Operand.tmp 65) (Go.Operand.const (Go.Value.string { data := #[32] })) 9, type := 9, pos := "print.go:226", after := #[{ on := 8, ground := Go.Ground.data }], guard := none }) (v := .string ((⟨#[72, 84, 84, 80, 47, 49, 46]⟩ : ByteArray) ++ vt ++ (⟨#[32]⟩ : ByteArray) ++ sx ++ (⟨#[32]⟩ : ByteArray))) rfl (by kernel_rfl) (by kernel_rfl) (by kernel_rfl) (fun _ _ _ h => h) (Or.inl ⟨by kernel_rfl, ?_⟩) hS ?_
                  · intro w5 hSw
                    clear hSw hS
                    have hvz := HVz.out
                    have hsz := HSz.out
                    have hrz := HRz.out
                    go_simp
                  simp only [Act.put, List.setIfInBounds_toArray, List.set_cons_zero, List.set_cons_succ]
                  refine wpAnyH_ready (rs := [12]) (by kernel_rfl) (by simp) ?_
                  refine AllReadyH.cons (o := { dst := some 69, op := Go.Op.call { callee := Go.Callee.value (Go.Operand.func 46), args := #[Go.Operand.tmp 68], argTypes := #[3] }, type := 9, pos := "print.go:226", after := #[{ on := 11, ground := Go.Ground.data }, { on := 7, ground := Go.Ground.chain }], guard := none }) rfl (fun K hK => ?_) AllReadyH.nil
                  rw [if_pos (by kernel_rfl)]
                  go_simp
                  refine (HRr.out w11 HU11.out).mono ?_
                  rintro e w12 ⟨rfl, h9⟩
                  have HU12 := Hid.of (HU11.out.trans h9)
                  have HA12 := Hid.of (HA11.out.up h9)
                  have HF12 := Hid.of (HF11.out.up h9)
                  clear h9 hS
                  dsimp only
                  refine hK.out _ _ ⟨HA12.out, HU12.out⟩ (fun hS => ?_)
                  clear hK K
                  refine wpAnyH_take (i := 13) (oi := { dst := some 70, op := Go.Op.binOp Go.BinOp.add 9 (Go.Operand.tmp 66) (Go.Operand.tmp 69) 9, type := 9, pos := "print.go:226", after := #[{ on := 9, ground := Go.Ground.data }, { on := 12, ground := Go.Ground.data }], guard := none }) (v := .string ((⟨#[72, 84, 84, 80, 47, 49, 46]⟩ : ByteArray) ++ vt ++ (⟨#[32]⟩ : ByteArray) ++ sx ++ (⟨#[32]⟩ : ByteArray) ++ rx)) rfl (by kernel_rfl) (by kernel_rfl) (by kernel_rfl) (fun _ _ _ h => h) (Or.inl ⟨by kernel_rfl, ?_⟩) hS ?_
                  · intro w5 hSw
                    clear hSw hS
                    have hvz := HVz.out
                    have hsz := HSz.out
                    have hrz := HRz.out
                    go_simp
                  simp only [Act.put, List.setIfInBounds_toArray, List.set_cons_zero, List.set_cons_succ]
                  refine wpAnyH_take (i := 14) (oi := { dst := some 8, op := Go.Op.assign (Go.Operand.tmp 70), type := 9, pos := "print.go:226", after := #[{ on := 13, ground := Go.Ground.data }, { on := 12, ground := Go.Ground.chain }, { on := 0, ground := Go.Ground.phase }, { on := 1, ground := Go.Ground.phase }, { on := 2, ground := Go.Ground.phase }, { on := 3, ground := Go.Ground.phase }, { on := 4, ground := Go.Ground.phase }, { on := 5, ground := Go.Ground.phase }, { on := 6, ground := Go.Ground.phase }, { on := 7, ground := Go.Ground.phase }, { on := 8, ground := Go.Ground.phase }, { on := 9, ground := Go.Ground.phase }, { on := 10, ground := Go.Ground.phase }, { on := 11, ground := Go.Ground.phase }, { on := 12, ground := Go.Ground.phase }, { on := 13, ground := Go.Ground.phase }], guard := none }) (v := .string ((⟨#[72, 84, 84, 80, 47, 49, 46]⟩ : ByteArray) ++ vt ++ (⟨#[32]⟩ : ByteArray) ++ sx ++ (⟨#[32]⟩ : ByteArray) ++ rx)) rfl (by kernel_rfl) (by kernel_rfl) (by kernel_rfl) (fun _ _ _ h => h) (Or.inl ⟨by kernel_rfl, ?_⟩) hS ?_
                  · intro w5 hSw
                    clear hSw hS
                    go_simp
                  simp only [Act.put, List.setIfInBounds_toArray, List.set_cons_zero, List.set_cons_succ]
                  clear hS
                  refine wpAnyH_done (by kernel_rfl) ?_ _
                  generalize (⟨#[72, 84, 84, 80, 47, 49, 46]⟩ : ByteArray) ++ vt ++ (⟨#[32]⟩ : ByteArray) ++ sx ++ (⟨#[32]⟩ : ByteArray) ++ rx = fst at HSd HSs ⊢
                  have hbl2 : bd.length ≤ 1048576 := by have := HBn.out; omega
                  have hfl : fst.size ≤ 1048576 := by rw [HSs.out]; exact Nat.le_trans HNo.out (by decide)
                  have c3 := HA12.out.cell (i := 3) rfl
                  go_wp2_with fail
                  refine (HLd.out fst _ _ _ HF12.out (HB.out.up HU12.out) hfl (by omega) hbl2).mono ?_
                  rintro e w13 ⟨⟨a8, c8, rfl, hO8⟩, h9⟩
                  have HU13 := Hid.of (HU12.out.trans h9)
                  have HO8 := Hid.of hO8.out
                  clear h9 hO8
                  rw [HSd.out] at HO8 ⊢
                  dsimp only
                  have HE := Hid.of (show rv = .ok (prt (raS st 1) F bd) by rw [HRv.out, ← HC.out, if_neg hbl, if_neg HB0.out]; rfl)
                  go_wp2
                  go_ret2
                  rw [HE.out]
                  exact ⟨⟨a8, c8, rfl, Hid.of HO8.out⟩, HU13.out⟩
        · have q0 : (mi == 0) = false := beq_eq_false_iff_ne.2 hm2
          have q1 : (mi == 1) = false := beq_eq_false_iff_ne.2 hm3
          have q2 : (mi != 0) = true := by rw [bne, q0]; rfl
          have q3 : (mi != 1) = true := by rw [bne, q1]; rfl
          have HMf := Hid.of (show mnr mi = false by rw [mnr_eq, q0, q1]; rfl)
          have HE := Hid.of (show rv = .error 4 by rw [HRv.out, ← HC.out, if_pos HMf.out]; rfl)
          go_wp2
          go_ret2
          rw [HE.out]
          exact ⟨rfl, HU4.out⟩
end Go.Proofs.YtkaoalcffgnfeaaGreatDoor
