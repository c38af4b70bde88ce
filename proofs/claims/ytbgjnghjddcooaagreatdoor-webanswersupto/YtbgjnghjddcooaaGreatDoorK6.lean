import Derived.Test.YtbgjnghjddcooaaGreatDoorK2
import Derived.Test.YtbgjnghjddcooaaGreatDoorK5
namespace Go.Proofs.YtbgjnghjddcooaaGreatDoor
open Go.RowKit Go.Shelf TextNum
/-- why a response can't be printed -/
def ckr (st mi : Int) (fs : List FD) (nb : Nat) : Option Nat :=
  if 16384 < szs fs then some 1 else if mnr mi = false then some 4 else if sto st = false then some 11 else
    match ckf fs with
    | some k => some k
    | none => if 1048576 < nb then some 7 else if 0 < nb ∧ bdl st = true then some 7 else none
def raF (st : Int) (fs : List FD) (n : Nat) : List FD := if bdl st = true then pfs fs else pfs fs ++ [lnf n]
def raS (st mi : Int) : List UInt8 := vtx mi ++ [32] ++ Go.Lib.itoa st ++ [32] ++ rsn st
def raQ (st mi : Int) (fs : List FD) (bd : List UInt8) : Er (List UInt8) := match ckr st mi (raF st fs bd.length) bd.length with
  | some k => .error k
  | none => .ok (prt (raS st mi) (raF st fs bd.length) bd)
theorem st_facts : ∀ k : Nat, k < 600 → 100 ≤ k → rsO (Go.Lib.itoa (k : Int)) = true ∧ rsN (Go.Lib.itoa (k : Int)) = k ∧ vlu (rsn (k : Int)) = true ∧ (32 : UInt8) ∉ Go.Lib.itoa (k : Int) ∧ (10 : UInt8) ∉ Go.Lib.itoa (k : Int) ∧ (10 : UInt8) ∉ rsn (k : Int) ∧ (rsn (k : Int)).length ≤ 64 ∧ (Go.Lib.itoa (k : Int)).length = 3 := by decide +kernel
theorem sto_nat {st : Int} (h : sto st = true) : ∃ k : Nat, st = (k : Int) ∧ k < 600 ∧ 100 ≤ k := by
  unfold sto at h
  rw [Bool.and_eq_true, decide_eq_true_eq, decide_eq_true_eq] at h
  exact ⟨st.toNat, by omega, by omega, by omega⟩
theorem vtx_32 {mi : Int} (h : mnr mi = true) : (32 : UInt8) ∉ vtx mi ∧ (vtx mi).length = 8 := by
  rcases mnr_or h with rfl | rfl
  · rw [show vtx 0 = [72, 84, 84, 80, 47, 49, 46, 48] by decide +kernel]
    exact ⟨by decide +kernel, rfl⟩
  · rw [show vtx 1 = [72, 84, 84, 80, 47, 49, 46, 49] by decide +kernel]
    exact ⟨by decide +kernel, rfl⟩
theorem rsl_raS {k : Nat} {mi : Int} (hs : sto (k : Int) = true) (hi : mnr mi = true) : rsl (raS (k : Int) mi) = .ok (k, mi) := by
  obtain ⟨j, hj, hj1, hj2⟩ := sto_nat hs
  have hjk : k = j := by omega
  subst hjk
  obtain ⟨f1, f2, f3, f4, f5, f6, f7, f8⟩ := st_facts k hj1 hj2
  obtain ⟨h1, h2, _⟩ := vtx_facts hi
  have e : raS (k : Int) mi = vtx mi ++ 32 :: (Go.Lib.itoa (k : Int) ++ 32 :: rsn (k : Int)) := by simp [raS]
  have k1 := cut_at (vtx mi) (Go.Lib.itoa (k : Int) ++ 32 :: rsn (k : Int)) 32 (vtx_32 hi).1
  have k2 := cut_at (Go.Lib.itoa (k : Int)) (rsn (k : Int)) 32 f4
  have e1 : c1 32 (raS (k : Int) mi) = vtx mi := by unfold c1; rw [e, k1]
  have e2 : c2 32 (raS (k : Int) mi) = Go.Lib.itoa (k : Int) ++ 32 :: rsn (k : Int) := by unfold c2; rw [e, k1]
  have e3 : c1 32 (Go.Lib.itoa (k : Int) ++ 32 :: rsn (k : Int)) = Go.Lib.itoa (k : Int) := by unfold c1; rw [k2]
  have e4 : c2 32 (Go.Lib.itoa (k : Int) ++ 32 :: rsn (k : Int)) = rsn (k : Int) := by unfold c2; rw [k2]
  unfold rsl
  rw [e1, e2, e3, e4, f1, h1, f3, h2, f2, if_neg (by simp)]
  dsimp only
  rw [if_neg (by rw [hs]; simp)]
theorem raS_no {st mi : Int} (hs : sto st = true) (hi : mnr mi = true) : (10 : UInt8) ∉ raS st mi ∧ (raS st mi).length ≤ 100 := by
  obtain ⟨k, rfl, hj1, hj2⟩ := sto_nat hs
  obtain ⟨f1, f2, f3, f4, f5, f6, f7, f8⟩ := st_facts k hj1 hj2
  obtain ⟨_, _, h3⟩ := vtx_facts hi
  obtain ⟨_, h4⟩ := vtx_32 hi
  refine ⟨?_, ?_⟩
  · unfold raS
    simp only [List.mem_append, List.mem_cons, List.not_mem_nil, or_false]
    rintro ((((h | h) | h) | h) | h)
    · exact h3 h
    · revert h; decide
    · exact f5 h
    · revert h; decide
    · exact f6 h
  · unfold raS
    simp only [List.length_append, List.length_cons, List.length_nil]
    omega
theorem cHd_prtP {pl : Nat} {st : List UInt8} {F : List FD} {R : List UInt8} (h10 : (10 : UInt8) ∉ st) (hs : st.length ≤ 8000) (hg : ∀ f ∈ F, mbf f = true) (hl : szs F ≤ 16384) : cHd pl (st ++ 13 :: 10 :: (lbs F ++ 13 :: 10 :: R)) = .ok (st, lbs F, st.length + 2 + ((lbs F).length + 2)) := by
  unfold cHd
  rw [cutL_line h10 hs]
  dsimp only
  have hd : (st ++ 13 :: 10 :: (lbs F ++ 13 :: 10 :: R)).drop (st.length + 2) = lbs F ++ 13 :: 10 :: R := by
    rw [← List.drop_drop, List.drop_left' rfl]
    rfl
  rw [hd, mF_lines hg hl]
  dsimp only
  rw [List.take_left' rfl]
theorem ckr_lt {st mi : Int} {fs : List FD} {nb k : Nat} (h : ckr st mi fs nb = some k) : k < 12 := by
  unfold ckr at h
  repeat' split at h
  all_goals first
    | (cases h; done)
    | (injection h with h; subst h; decide)
    | (injection h with h; subst h; exact ckf_lt (by assumption))
theorem ckr_ok {st mi : Int} {fs : List FD} {nb : Nat} (h : ckr st mi fs nb = none) : szs fs ≤ 16384 ∧ mnr mi = true ∧ sto st = true ∧ ckf fs = none ∧ nb ≤ 1048576 ∧ (bdl st = true → nb = 0) := by
  unfold ckr at h
  repeat' split at h
  all_goals first
    | (cases h; done)
    | skip
  rename_i h1 h2 h3 _ h4 h5 h6
  refine ⟨by omega, by simpa using h2, by simpa using h3, h4, by omega, fun hb => ?_⟩
  rcases Nat.eq_zero_or_pos nb with h | h
  · exact h
  · exact absurd ⟨h, hb⟩ h6
theorem rsF_raF {st mi : Int} {fs : List FD} {n : Nat} (h : n ≤ 1048576) : rsF st (raF st fs n) mi = if bdl st = true then .ok (0, 0) else .ok (2, n) := by
  unfold rsF raF
  by_cases h0 : bdl st = true
  · rw [if_pos h0, if_pos h0]
  · rw [if_neg h0, if_neg h0, if_neg h0]
    have hc := pfs_count fs
    have hi : (pfs fs).any isc = false := by
      rw [List.any_eq_false]
      intro f hf
      rw [tls_isc (pfs_tidy hf).2]
      simp
    have hbd : ∀ F : List FD, F.any isc = false → F.any (bdc mi) = false := by
      intro F hF
      rw [List.any_eq_false] at hF ⊢
      intro f hf
      unfold bdc
      have := hF f hf
      simp only [Bool.not_eq_true] at this
      rw [this]
      simp
    unfold frm
    obtain ⟨k1, k2⟩ := lnf_tls n
    have ha : (pfs fs ++ [lnf n]).any isc = false := by rw [List.any_append, hi]; simp [k2]
    have hcn : (pfs fs ++ [lnf n]).countP tls = 1 := by rw [List.countP_append, hc]; simp [k1]
    rw [hbd _ ha, ha, hcn, if_neg (by simp), if_neg (by omega), if_neg (by omega), if_neg (by simp), lst_yes k1]
    exact frl_itoa h
theorem rsP_prt {st mi : Int} {fs : List FD} {bd : List UInt8} (h : ckr st mi (raF st fs bd.length) bd.length = none) (tl : List UInt8) :
    rsP (prt (raS st mi) (raF st fs bd.length) bd ++ tl) = .ok ((⟨st.toNat, mi, raF st fs bd.length⟩, cls (mi == 0) (raF st fs bd.length), bd), (prt (raS st mi) (raF st fs bd.length) bd).length) := by
  obtain ⟨h2, h3, h4, h5, h6, h7⟩ := ckr_ok h
  obtain ⟨f1, f2⟩ := ckf_none h5
  have hg : ∀ f ∈ raF st fs bd.length, gud f := by
    intro f hf
    refine ⟨f2 f hf, ?_⟩
    unfold raF at hf
    split at hf
    · exact (pfs_tidy hf).1
    · rcases List.mem_append.1 hf with hf | hf
      · exact (pfs_tidy hf).1
      · rw [List.mem_singleton.1 hf]
        exact (lnf_gud _).2
  have hfr := rsF_raF (st := st) (fs := fs) (mi := mi) h6
  generalize raF st fs bd.length = F at *
  obtain ⟨hno, hsl⟩ := raS_no h4 h3
  obtain ⟨k, rfl, _, _⟩ := sto_nat h4
  have hrl := rsl_raS h4 h3
  have e : prt (raS (k : Int) mi) F bd ++ tl = raS (k : Int) mi ++ 13 :: 10 :: (lbs F ++ 13 :: 10 :: (bd ++ tl)) := by simp [prt]
  have el : (prt (raS (k : Int) mi) F bd).length = (raS (k : Int) mi).length + 2 + ((lbs F).length + 2) + bd.length := by
    simp only [prt, List.length_append, List.length_cons, List.length_nil]
    omega
  rw [el]
  generalize raS (k : Int) mi = s at *
  have hd : (s ++ 13 :: 10 :: (lbs F ++ 13 :: 10 :: (bd ++ tl))).drop (s.length + 2 + ((lbs F).length + 2)) = bd ++ tl := by
    have e2 : s ++ 13 :: 10 :: (lbs F ++ 13 :: 10 :: (bd ++ tl)) = (s ++ 13 :: 10 :: (lbs F ++ [13, 10])) ++ (bd ++ tl) := by simp
    rw [e2]
    refine List.drop_left' ?_
    simp only [List.length_append, List.length_cons, List.length_nil]
    omega
  unfold rsP msg
  rw [e, cHd_prtP hno (by omega) f2 h2]
  dsimp only
  have hrg : rsg s (lbs F) = .ok (⟨k, mi, F⟩, if bdl (k : Int) = true then 0 else 2, bd.length) := by
    unfold rsg
    rw [hrl]
    dsimp only
    rw [rdf_lbs hg f1]
    dsimp only
    rw [hfr]
    by_cases hb : bdl (k : Int) = true
    · rw [if_pos hb, if_pos hb, h7 hb]
    · rw [if_neg hb, if_neg hb]
  rw [hrg]
  dsimp only
  rw [hd]
  have hfc : fcu (if bdl (k : Int) = true then 0 else 2) bd.length (bd ++ tl) = .ok (bd, bd.length) := by
    split
    · rename_i hb
      have h0 : bd = [] := List.eq_nil_of_length_eq_zero (h7 hb)
      subst h0
      unfold fcu
      rw [if_neg (by decide), if_neg (by decide), if_neg (by decide)]
      rfl
    · unfold fcu
      rw [if_neg (by decide), if_neg (by decide), if_pos rfl, if_neg (by simp), List.take_left' rfl]
  rw [hfc]
  dsimp only
  have hw : ((if bdl (k : Int) = true then (0 : Int) else 2) == 1) = false := by split <;> rfl
  rw [hw, Bool.false_or, Int.toNat_natCast]
theorem rsP_pre {l : List UInt8} {x : Rs} {cl : Bool} {b : List UInt8} {way : Int} {n : Nat} (h : rsP l = .ok ((x, cl, b), l.length)) (hF : rsF (x.st : Int) x.fs x.mi = .ok (way, n)) (hw : way ≠ 1) {i : Nat} (hi : i < l.length) : rsP (l.take i) = .error 2 := by
  have e := List.take_append_drop i l
  have hl : (l.take i).length = i := by rw [List.length_take]; omega
  cases hc : rsP (l.take i) with
  | error k =>
    by_cases hk : k = 2
    · rw [hk]
    · have h1 : rsP (l.take i ++ l.drop i) = .error k := msg_er hc hk
      rw [e, h] at h1
      cases h1
  | ok q =>
    obtain ⟨y, m⟩ := q
    obtain ⟨st, fl, k, x', way', len, b', h1, h2, h3, h4, h5, h6, h7, h8, h9⟩ := msg_ok hc
    have h10 := h9 (l.drop i)
    rw [e] at h10
    obtain ⟨b2, hb2⟩ := h10.2 _ _ h
    have hx : x = x' := by injection hb2
    subst hx
    have h11 := (rsg_ok h2).2.2
    rw [hF] at h11
    have hww : way = way' := by injection h11 with h11; injection h11
    subst hww
    have h12 : rsP l = .ok (y, m) := h10.1 hw
    rw [h] at h12
    injection h12 with h12
    injection h12 with _ h12
    omega
theorem raQ_er {st mi : Int} {fs : List FD} {bd : List UInt8} {k : Nat} (h : raQ st mi fs bd = .error k) : (nums k != 0) = true := by
  have hk : k < 12 := by
    unfold raQ at h
    cases hc : ckr st mi (raF st fs bd.length) bd.length with
    | some j => rw [hc] at h; injection h with h; rw [← h]; exact ckr_lt hc
    | none => rw [hc] at h; cases h
  have : ∀ k, k < 12 → (nums k != 0) = true := by decide +kernel
  exact this k hk
theorem raQ_ok {st mi : Int} {fs : List FD} {bd l : List UInt8} (h : raQ st mi fs bd = .ok l) : ckr st mi (raF st fs bd.length) bd.length = none ∧ l = prt (raS st mi) (raF st fs bd.length) bd := by
  unfold raQ at h
  cases hc : ckr st mi (raF st fs bd.length) bd.length with
  | some j => rw [hc] at h; cases h
  | none => rw [hc] at h; injection h with h; exact ⟨rfl, h.symm⟩
theorem szs_raF (st : Int) (fs : List FD) (n : Nat) (h : n ≤ 1099511627776) : szs (raF st fs n) ≤ szs fs + 128 := by
  have h1 := szs_pfs fs
  unfold raF
  split
  · omega
  · rw [szs_snoc]
    have h2 : szf (lnf n) ≤ 128 := by
      have h3 := itoa_len (n : Int) (by omega) (by omega)
      have h4 : (⟨(Go.Lib.itoa (n : Int)).toArray⟩ : ByteArray).size = (Go.Lib.itoa (n : Int)).length := by simp [ByteArray.size]
      have h5 : ctlN.size = 14 := rfl
      unfold szf lnf
      dsimp only
      omega
    omega
end Go.Proofs.YtbgjnghjddcooaaGreatDoor
namespace Go.Proofs.YtbgjnghjddcooaaGreatDoor
open Go.RowKit Go.Shelf TextNum
set_option maxRecDepth 100000 in
set_option maxHeartbeats 4000000 in
theorem checkResponse_walk (ad : Nat → Addr) (st mi : Int) (af : Option Addr) (nf cf : Nat) (ab : Option Addr) (nb cb' : Nat) (cl : Bool) (a : Option Addr) (fs : List FD) (c : Nat) (w : World) (h : FdL w a fs c) (hG : GW w ad)
    (hl : szs fs ≤ 1099511627776) (hnb : nb ≤ 1099511627776) :
    Calls Tryz.prog 44 #[.agg #[.int .i64 st, .int .i64 mi, .slice af nf cf, .slice ab nb cb', .bool cl], .slice a fs.length c] w fun e w' => e = .returned (eoV ad (ckr st mi fs nb)) ∧ Up w w' := by
  have HF := Hid.of h
  have HW := Hid.of hG
  have hcap := h.cap
  have hsl := szs_len fs
  clear h hG
  have HA0 := Hid.of (at_new w 33 [.int .i64 st, .int .i64 mi, .slice af nf cf, .slice ab nb cb', .bool cl])
  have HU0 := Hid.of ((Up.refl w).alloc (.cells [.int .i64 st, .int .i64 mi, .slice af nf cf, .slice ab nb cb', .bool cl].toArray 33))
  obtain ⟨rv, hrv⟩ : ∃ rv, eoV ad (ckr st mi fs nb) = rv := ⟨_, rfl⟩
  rw [hrv]
  unfold ckr at hrv
  have HR := Hid.of hrv
  clear hrv
  obtain ⟨z, hz⟩ : ∃ z, szs fs = z := ⟨_, rfl⟩
  have HSz := Hid.of (fun w (hF : FdL w a fs c) => sizeOf_walk a fs c w hF hl)
  have HCf := Hid.of (fun w (hF : FdL w a fs c) (hE : GE w ad) => checkFields_walk ad a fs c w hF hl hE)
  rw [hz] at HR hl hsl HSz
  clear hz
  go_enter Tryz.func44, Tryz.ntmps44
  go_wp2_with fail
  obtain ⟨w1, hw1⟩ : ∃ w1, w.alloc (.cells [.int .i64 st, .int .i64 mi, .slice af nf cf, .slice ab nb cb', .bool cl].toArray 33) = w1 := ⟨_, rfl⟩
  rw [hw1] at HA0 HU0
  change Calls _ _ _ (w.alloc (.cells [.int .i64 st, .int .i64 mi, .slice af nf cf, .slice ab nb cb', .bool cl].toArray 33)) _
  rw [hw1]
  clear hw1
  refine (HSz.out w1 (HF.out.up HU0.out)).mono ?_
  rintro e w2 ⟨rfl, h9⟩
  have HU2 := Hid.of (HU0.out.trans h9)
  have HA2 := Hid.of (HA0.out.up h9)
  clear h9
  dsimp only
  by_cases h2 : 16384 < z
  · have h2z : (16384 : Int) < (z : Int) := by omega
    have HE := Hid.of (show rv = ev (ad 1) by rw [← HR.out, if_pos h2]; rfl)
    have hgl : w2.cell? ⟨3, 0, none⟩ = _ := (HW.out.up HU2.out).ge.gl 1 (by decide)
    go_wp2
    go_ret
    rw [HE.out]
    exact ⟨rfl, HU2.out⟩
  · have h2z : ¬ (16384 : Int) < (z : Int) := by omega
    rw [if_neg h2] at HR
    have c1 := HA2.out.cell (i := 1) rfl
    go_wp2_with fail
    refine (isMinor_walk mi w2).mono ?_
    rintro e w8 ⟨rfl, h9⟩
    obtain rfl := h9.symm
    clear h9
    dsimp only
    cases hmn : mnr mi with
    | false =>
      have HE := Hid.of (show rv = ev (ad 4) by rw [← HR.out, if_pos hmn]; rfl)
      have hgl : w2.cell? ⟨6, 0, none⟩ = _ := (HW.out.up HU2.out).ge.gl 4 (by decide)
      go_wp2
      go_ret
      rw [HE.out]
      exact ⟨rfl, HU2.out⟩
    | true =>
      rw [if_neg (by rw [hmn]; simp)] at HR
      clear hmn c1
      have c0 := HA2.out.cell (i := 0) rfl
      go_wp2_with fail
      refine (isStatus_walk st w2).mono ?_
      rintro e w8 ⟨rfl, h9⟩
      obtain rfl := h9.symm
      clear h9
      dsimp only
      cases hst : sto st with
      | false =>
        have HE := Hid.of (show rv = ev (ad 11) by rw [← HR.out, if_pos hst]; rfl)
        have hgl : w2.cell? ⟨11, 0, none⟩ = _ := (HW.out.up HU2.out).ge.gl 11 (by decide)
        go_wp2
        go_ret
        rw [HE.out]
        exact ⟨rfl, HU2.out⟩
      | true =>
        rw [if_neg (by rw [hst]; simp)] at HR
        clear hst c0
        go_wp2_with fail
        refine (HCf.out w2 (HF.out.up HU2.out) (HW.out.up HU2.out).ge).mono ?_
        rintro e w3 ⟨rfl, h9⟩
        have HU3 := Hid.of (HU2.out.trans h9)
        have HA3 := Hid.of (HA2.out.up h9)
        clear h9
        dsimp only
        cases hcf : ckf fs with
        | some k =>
          have HE := Hid.of (show rv = ev (ad k) by rw [← HR.out, hcf]; rfl)
          rw [show eoV ad (some k) = ev (ad k) from rfl]
          have hne := ev_neq ad k
          go_wp2
          go_ret
          rw [HE.out]
          exact ⟨rfl, HU3.out⟩
        | none =>
          rw [hcf] at HR
          dsimp only at HR
          rw [show eoV ad none = Value.nilIface from rfl]
          clear hcf
          have c3 := HA3.out.cell (i := 3) rfl
          have c0 := HA3.out.cell (i := 0) rfl
          by_cases hbl : 1048576 < nb
          · have hblz : (1048576 : Int) < (nb : Int) := by omega
            have HE := Hid.of (show rv = ev (ad 7) by rw [← HR.out, if_pos hbl]; rfl)
            have hgl : w3.cell? ⟨7, 0, none⟩ = _ := (HW.out.up HU3.out).ge.gl 7 (by decide)
            go_wp2
            go_ret
            rw [HE.out]
            exact ⟨rfl, HU3.out⟩
          · have hblz : ¬ (1048576 : Int) < (nb : Int) := by omega
            rw [if_neg hbl] at HR
            clear hbl
            by_cases hb0 : 0 < nb
            · have hb0z : (0 : Int) < (nb : Int) := by omega
              go_wp2_with fail
              refine (isBodiless_walk st w3).mono ?_
              rintro e w9 ⟨rfl, h9⟩
              obtain rfl := h9.symm
              clear h9
              dsimp only
              cases hbd : bdl st with
              | true =>
                have HE := Hid.of (show rv = ev (ad 7) by rw [← HR.out, if_pos ⟨hb0, hbd⟩]; rfl)
                have hgl : w3.cell? ⟨7, 0, none⟩ = _ := (HW.out.up HU3.out).ge.gl 7 (by decide)
                go_wp2
                go_ret
                rw [HE.out]
                exact ⟨rfl, HU3.out⟩
              | false =>
                have HE := Hid.of (show rv = .nilIface by rw [← HR.out, if_neg (fun h => by rw [hbd] at h; cases h.2)]; rfl)
                go_wp2
                go_ret
                rw [HE.out]
                exact ⟨rfl, HU3.out⟩
            · have hb0z : ¬ (0 : Int) < (nb : Int) := by omega
              have HE := Hid.of (show rv = .nilIface by rw [← HR.out, if_neg (fun h => hb0 h.1)]; rfl)
              go_wp2
              go_ret
              rw [HE.out]
              exact ⟨rfl, HU3.out⟩
end Go.Proofs.YtbgjnghjddcooaaGreatDoor
namespace Go.Proofs.YtbgjnghjddcooaaGreatDoor
open Go.RowKit Go.Shelf TextNum
set_option maxRecDepth 100000 in
set_option maxHeartbeats 4000000 in
theorem FormatResponse_walk (ad : Nat → Addr) (st mi : Int) (a : Option Addr) (fs : List FD) (c : Nat) (ab : Option Addr) (nb cb' : Nat) (bd : List UInt8) (cl : Bool) (w : World) (h : FdL w a fs c) (hb : Sb w (.slice ab nb cb') bd) (hG : GW w ad) (hRs : w.rangeAt 12 0 rsC)
    (hs0 : -9223372036854775808 ≤ st) (hs1 : st ≤ 9223372036854775807) (hm0 : -9223372036854775808 ≤ mi) (hm1 : mi ≤ 9223372036854775807) (hl : szs fs ≤ 1099511627000) (hnb : nb ≤ 1099511627776) :
    Calls Tryz.prog 26 #[.agg #[.int .i64 st, .int .i64 mi, .slice a fs.length c, .slice ab nb cb', .bool cl]] w fun e w' => FrR w w' e (raQ st mi fs bd) ∧ Up w w' := by
  have HF := Hid.of h
  have HW := Hid.of hG
  have HB := Hid.of hb
  have HRs := Hid.of hRs
  have hcap := h.cap
  obtain ⟨hbn, hbc, hbm⟩ := hb.len
  unfold maxLen at hbm
  have HBn := Hid.of hbn
  clear h hG hb hbn hRs
  have HVz0 : (⟨(vtx mi).toArray⟩ : ByteArray).size = (vtx mi).length := by simp [ByteArray.size]
  have HVx := Hid.of (show vs (vtx mi) = .string ⟨(vtx mi).toArray⟩ from rfl)
  have HVd0 : (⟨(vtx mi).toArray⟩ : ByteArray).data.toList = vtx mi := rfl
  generalize (⟨(vtx mi).toArray⟩ : ByteArray) = vt at HVx HVz0 HVd0
  have HVd := Hid.of HVd0
  obtain ⟨vl, hVn⟩ : ∃ vl, (vtx mi).length = vl := ⟨_, rfl⟩
  rw [hVn] at HVz0
  have HVz := Hid.of HVz0
  have HVn := Hid.of hVn
  clear HVz0 HVd0 hVn
  have HSz0 : (⟨(Go.Lib.itoa st).toArray⟩ : ByteArray).size = (Go.Lib.itoa st).length := by simp [ByteArray.size]
  have HSx := Hid.of (show vs (Go.Lib.itoa st) = .string ⟨(Go.Lib.itoa st).toArray⟩ from rfl)
  have HSd0 : (⟨(Go.Lib.itoa st).toArray⟩ : ByteArray).data.toList = Go.Lib.itoa st := rfl
  generalize (⟨(Go.Lib.itoa st).toArray⟩ : ByteArray) = sx at HSx HSz0 HSd0
  have HSd := Hid.of HSd0
  obtain ⟨sl, hSn⟩ : ∃ sl, (Go.Lib.itoa st).length = sl := ⟨_, rfl⟩
  rw [hSn] at HSz0
  have HSz := Hid.of HSz0
  have HSn := Hid.of hSn
  clear HSz0 HSd0 hSn
  have HRz0 : (⟨(rsn st).toArray⟩ : ByteArray).size = (rsn st).length := by simp [ByteArray.size]
  have HRx := Hid.of (show vs (rsn st) = .string ⟨(rsn st).toArray⟩ from rfl)
  have HRd0 : (⟨(rsn st).toArray⟩ : ByteArray).data.toList = rsn st := rfl
  generalize (⟨(rsn st).toArray⟩ : ByteArray) = rx at HRx HRz0 HRd0
  have HRd := Hid.of HRd0
  obtain ⟨rl, hRn⟩ : ∃ rl, (rsn st).length = rl := ⟨_, rfl⟩
  rw [hRn] at HRz0
  have HRz := Hid.of HRz0
  have HRn := Hid.of hRn
  clear HRz0 HRd0 hRn
  have hsl := szs_len fs
  have hpl := pfs_len fs
  have HZf := Hid.of (szs_raF st fs nb hnb)
  have HA0 := Hid.of (at_new w 33 [.int .i64 st, .int .i64 mi, .slice a fs.length c, .slice ab nb cb', .bool cl])
  have HU0 := Hid.of ((Up.refl w).alloc (.cells [.int .i64 st, .int .i64 mi, .slice a fs.length c, .slice ab nb cb', .bool cl].toArray 33))
  obtain ⟨rv, hrv⟩ : ∃ rv, raQ st mi fs bd = rv := ⟨_, rfl⟩
  have HR := Hid.of hrv
  rw [hrv]
  clear hrv
  go_enter Tryz.func26, Tryz.ntmps26
  go_wp2_with (with_reducible show wpList _ _ _ ({ dst := _, op := Op.load 25 _, type := _, pos := _, after := _, guard := _ } :: _) _ _; refine Shut.out ?_)
  show wpList _ _ _ _ _ _
  obtain ⟨w1, hw1⟩ : ∃ w1, w.alloc (.cells [.int .i64 st, .int .i64 mi, .slice a fs.length c, .slice ab nb cb', .bool cl].toArray 33) = w1 := ⟨_, rfl⟩
  have HS1 := Hid.of (show w.heap.size < w1.heap.size by rw [← hw1, alloc_size]; omega)
  rw [hw1] at HA0 HU0
  change wpList _ _ _ _ _ (w.alloc (.cells [.int .i64 st, .int .i64 mi, .slice a fs.length c, .slice ab nb cb', .bool cl].toArray 33))
  rw [hw1]
  clear hw1
  have c3 := HA0.out.cell (i := 2) rfl
  go_wp2_with fail
  refine (printedFields_walk a fs c w1 (HF.out.up HU0.out) (by omega) (HW.out.up HU0.out).kd).mono ?_
  rintro e w2 ⟨⟨a2, c2, rfl, hO2⟩, h9⟩
  have HU2 := Hid.of (HU0.out.trans h9)
  have HA2 := Hid.of (HA0.out.up h9)
  have HO2 := Hid.of hO2.out
  have HW1 := Hid.of h9
  clear h9 hO2 c3
  dsimp only
  have c0 := HA2.out.cell (i := 0) rfl
  go_wp2_with fail
  refine (isBodiless_walk st w2).mono ?_
  rintro e w3 ⟨rfl, h9⟩
  obtain rfl := h9.symm
  clear h9 c0
  dsimp only
  cases hb0 : bdl st with
  | false =>
    have HFr0 : raF st fs nb = pfs fs ++ [lnf nb] := by unfold raF; rw [if_neg (by rw [hb0]; simp)]
    clear hb0
    have c4 := HA2.out.cell (i := 3) rfl
    obtain ⟨np, hnp⟩ : ∃ np, (pfs fs).length = np := ⟨_, rfl⟩
    have HNp := Hid.of hnp
    rw [hnp] at hpl ⊢
    clear hnp
    go_wp2_with fail
    refine (lengthOf_walk ab nb cb' hnb w2 (HW.out.up HU2.out).gn).mono ?_
    rintro e w3 ⟨rfl, h9⟩
    have HU3 := Hid.of (HU2.out.trans h9)
    have HA3 := Hid.of (HA2.out.up h9)
    have Hu3 := Hid.of h9
    clear h9
    dsimp only
    go_wp2_with (with_reducible show wpList _ _ _ ({ dst := _, op := Op.call { callee := Callee.builtin Builtin.append, args := _, argTypes := _ }, type := _, pos := _, after := _, guard := _ } :: _) _ _; refine Shut.out ?_)
    show wpList _ _ _ _ _ _
    refine wpList_appFd (w := w3) (N := w1.heap.size) rfl _ _ rfl a2 c2 (pfs fs) (lnf nb) HNp.out rfl rfl (ow_up HO2.out Hu3.out) (Nat.le_trans HW1.out.size Hu3.out.size) (by omega) ?_
    intro a4 c4' w4 o4 u4 g4
    have HA4 := Hid.of (HA3.out.by g4 (fun e => by
      have h1 := ow_up HO2.out Hu3.out
      unfold FdO at h1
      rw [HNp.out] at h1
      have h2 := (World.ownsRow.lt h1 w.heap.size e).1
      have h3 := HS1.out
      omega))
    have hu4 := u4 w1 (HW1.out.trans Hu3.out) (Nat.le_refl _)
    have HU4 := Hid.of (HU0.out.trans hu4)
    have hZ := HZf.out
    rw [HFr0] at hZ
    have HFr := Hid.of HFr0
    have HNF0 : (pfs fs ++ [lnf nb]).length = np + 1 := by rw [List.length_append, HNp.out]; rfl
    have HF4 := Hid.of o4.fdl
    clear o4 u4 g4 hu4 HFr0 c4
    generalize pfs fs ++ [lnf nb] = F at HF4 HFr HNF0 hZ
    rw [← HNF0]
    clear HNF0
    have hFz : szs F ≤ 1099511627776 := by omega
    clear hZ
    simp only [Act.put, List.setIfInBounds_toArray, List.set_cons_zero, List.set_cons_succ]
    obtain ⟨nF, hnF⟩ : ∃ nF, F.length = nF := ⟨_, rfl⟩
    have HNF := Hid.of hnF
    have hnFc := HF4.out.cap
    have HCk := Hid.of (checkResponse_walk ad st mi a fs.length c ab nb cb' cl a4 F c4' w4 HF4.out (HW.out.up HU4.out) hFz hnb)
    have HPm := Hid.of (fun (st : ByteArray) (w7 : World) (h1 : FdL w7 a4 F c4') (h2 : Sb w7 (.slice ab nb cb') bd) h3 h4 h5 => printMessage_walk st a4 F c4' ab nb cb' bd w7 h1 h2 h3 h4 h5)
    rw [hnF] at HCk HPm hnFc ⊢
    clear hnF
    go_wp2_with (with_reducible show wpList _ _ _ ({ dst := _, op := Op.load 33 _, type := _, pos := _, after := _, guard := _ } :: _) _ _; refine Shut.out ?_)
    show wpList _ _ _ _ _ _
    refine wpList_load_mid rfl _ _ rfl w.heap.size 0 rfl [.int .i64 st, .int .i64 mi, .slice a fs.length c, .slice ab nb cb', .bool cl] _ HA4.out.range Tryz.underlying33 rfl (by kernel_rfl) ?_
    simp only [Act.put, List.setIfInBounds_toArray, List.set_cons_zero, List.set_cons_succ]
    go_wp2_with fail
    refine HCk.out.mono ?_
    rintro e w6 ⟨rfl, h9⟩
    have HU6 := Hid.of (HU4.out.trans h9)
    have HA6 := Hid.of (HA4.out.up h9)
    have HF6 := Hid.of (HF4.out.up h9)
    clear h9
    dsimp only
    cases hck : ckr st mi F nb with
    | some k =>
      have HE := Hid.of (show rv = .error k by rw [← HR.out]; unfold raQ; rw [← HBn.out, HFr.out, hck])
      have hk := ckr_lt hck
      rw [show eoV ad (some k) = ev (ad k) from rfl]
      have hne := ev_neq ad k
      clear hck
      go_wp2_with fail
      refine (numberOf_err ad k hk w6 (HW.out.up HU6.out).ge).mono ?_
      rintro e w7 ⟨rfl, h9⟩
      have HU7 := Hid.of (HU6.out.trans h9)
      clear h9
      dsimp only
      go_wp2
      go_ret2
      rw [HE.out]
      exact ⟨rfl, HU7.out⟩
    | none =>
      have HE := Hid.of (show rv = .ok (prt (raS st mi) F bd) by rw [← HR.out]; unfold raQ; rw [← HBn.out, HFr.out, hck])
      obtain ⟨hq1, hq2, hq3, hq4, hq5, hq6⟩ := ckr_ok hck
      rw [show eoV ad none = Value.nilIface from rfl]
      have HSt := Hid.of (show (vt ++ (⟨#[32]⟩ : ByteArray) ++ sx ++ (⟨#[32]⟩ : ByteArray) ++ rx).data.toList = raS st mi by rw [bat_app, bat_app, bat_app, bat_app]; unfold raS; rw [HVd.out, HSd.out, HRd.out])
      have hsz4 : (vt ++ (⟨#[32]⟩ : ByteArray) ++ sx ++ (⟨#[32]⟩ : ByteArray) ++ rx).size ≤ 1048576 := by
        rw [Go.Lib.size_eq, HSt.out]
        exact Nat.le_trans (raS_no hq3 hq2).2 (by decide)
      have hsm : vl ≤ 100 ∧ sl ≤ 100 ∧ rl ≤ 100 := by
        have h1 := (raS_no hq3 hq2).2
        have h2 := HVn.out
        have h3 := HSn.out
        have h4 := HRn.out
        unfold raS at h1
        simp only [List.length_append, List.length_cons, List.length_nil] at h1
        omega
      obtain ⟨hvl, hsl2, hrl⟩ := hsm
      have HPm := Hid.of (fun w7 h1 h2 => HPm.out (vt ++ (⟨#[32]⟩ : ByteArray) ++ sx ++ (⟨#[32]⟩ : ByteArray) ++ rx) w7 h1 h2 hsz4 (by omega) (by rw [← HBn.out]; exact hq5))
      rw [HSt.out] at HPm
      clear hsz4 HSt
      obtain ⟨L, hL⟩ : ∃ L, (prt (raS st mi) F bd).length = L := ⟨_, rfl⟩
      have HL := Hid.of hL
      rw [hL] at HPm
      clear hL hck
      have hl1 : ¬ 9223372036854775807 < vl + 1 := by omega
      have hl2 : ¬ 9223372036854775807 < vl + 1 + sl := by omega
      have hl3 : ¬ 9223372036854775807 < vl + 1 + sl + 1 := by omega
      have hl4 : ¬ 9223372036854775807 < vl + 1 + sl + 1 + rl := by omega
      go_wp2
      have HUd := Hid.of HU6.out.drew
      have HAd := Hid.of (HA6.out.up (Up.refl _).drew)
      have HFd := Hid.of (HF6.out.up (Up.refl _).drew)
      refine wp_region_held_drew (S := fun w2 => At w2 w.heap.size 33 [.int .i64 st, .int .i64 mi, .slice a fs.length c, .slice ab nb cb', .bool cl] ∧ GW w2 ad ∧ Up w w2) (by kernel_rfl) ⟨HAd.out, HW.out.up HUd.out, HUd.out⟩ (fun hS => ?_)
      refine wpAnyH_take (i := 0) (oi := { dst := some 26, op := Go.Op.fieldAddr 33 (Go.Operand.tmp 1) 1, type := 0, pos := "web.go:75", after := #[], guard := none }) (v := .pointer (some ⟨w.heap.size, 1, none⟩)) rfl (by kernel_rfl) (by kernel_rfl) (by kernel_rfl) (fun _ _ _ h => h) (Or.inl ⟨by kernel_rfl, ?_⟩) hS ?_
      · intro w5 hSw
        clear hSw hS
        go_simp
      simp only [Act.put, List.setIfInBounds_toArray, List.set_cons_zero, List.set_cons_succ]
      refine wpAnyH_take (i := 1) (oi := { dst := some 27, op := Go.Op.load 3 (Go.Operand.tmp 26), type := 3, pos := "web.go:75", after := #[{ on := 0, ground := Go.Ground.data }], guard := none }) (v := .int .i64 mi) rfl (by kernel_rfl) (by kernel_rfl) (by kernel_rfl) (fun _ _ _ h => h) (Or.inl ⟨by kernel_rfl, ?_⟩) hS ?_
      · intro w5 hSw
        have h0 := hSw.1.cell (i := 1) rfl
        clear hSw hS
        go_simp
      simp only [Act.put, List.setIfInBounds_toArray, List.set_cons_zero, List.set_cons_succ]
      refine wpAnyH_take (i := 4) (oi := { dst := some 30, op := Go.Op.fieldAddr 33 (Go.Operand.tmp 1) 0, type := 0, pos := "web.go:75", after := #[], guard := none }) (v := .pointer (some ⟨w.heap.size, 0, none⟩)) rfl (by kernel_rfl) (by kernel_rfl) (by kernel_rfl) (fun _ _ _ h => h) (Or.inl ⟨by kernel_rfl, ?_⟩) hS ?_
      · intro w5 hSw
        clear hSw hS
        go_simp
      simp only [Act.put, List.setIfInBounds_toArray, List.set_cons_zero, List.set_cons_succ]
      refine wpAnyH_take (i := 5) (oi := { dst := some 31, op := Go.Op.load 3 (Go.Operand.tmp 30), type := 3, pos := "web.go:75", after := #[{ on := 4, ground := Go.Ground.data }], guard := none }) (v := .int .i64 st) rfl (by kernel_rfl) (by kernel_rfl) (by kernel_rfl) (fun _ _ _ h => h) (Or.inl ⟨by kernel_rfl, ?_⟩) hS ?_
      · intro w5 hSw
        have h0 := hSw.1.cell (i := 0) rfl
        clear hSw hS
        go_simp
      simp only [Act.put, List.setIfInBounds_toArray, List.set_cons_zero, List.set_cons_succ]
      refine wpAnyH_take (i := 9) (oi := { dst := some 35, op := Go.Op.fieldAddr 33 (Go.Operand.tmp 1) 0, type := 0, pos := "web.go:75", after := #[], guard := none }) (v := .pointer (some ⟨w.heap.size, 0, none⟩)) rfl (by kernel_rfl) (by kernel_rfl) (by kernel_rfl) (fun _ _ _ h => h) (Or.inl ⟨by kernel_rfl, ?_⟩) hS ?_
      · intro w5 hSw
        clear hSw hS
        go_simp
      simp only [Act.put, List.setIfInBounds_toArray, List.set_cons_zero, List.set_cons_succ]
      refine wpAnyH_take (i := 10) (oi := { dst := some 36, op := Go.Op.load 3 (Go.Operand.tmp 35), type := 3, pos := "web.go:75", after := #[{ on := 9, ground := Go.Ground.data }], guard := none }) (v := .int .i64 st) rfl (by kernel_rfl) (by kernel_rfl) (by kernel_rfl) (fun _ _ _ h => h) (Or.inl ⟨by kernel_rfl, ?_⟩) hS ?_
      · intro w5 hSw
        have h0 := hSw.1.cell (i := 0) rfl
        clear hSw hS
        go_simp
      simp only [Act.put, List.setIfInBounds_toArray, List.set_cons_zero, List.set_cons_succ]
      refine wpAnyH_take (i := 13) (oi := { dst := some 39, op := Go.Op.move (Go.Operand.tmp 4), type := 25, pos := "web.go:75", after := #[], guard := none }) (v := .slice a4 nF c4') rfl (by kernel_rfl) (by kernel_rfl) (by kernel_rfl) (fun _ _ _ h => h) (Or.inl ⟨by kernel_rfl, ?_⟩) hS ?_
      · intro w5 hSw
        clear hSw hS
        go_simp
      simp only [Act.put, List.setIfInBounds_toArray, List.set_cons_zero, List.set_cons_succ]
      refine wpAnyH_take (i := 14) (oi := { dst := some 40, op := Go.Op.fieldAddr 33 (Go.Operand.tmp 1) 3, type := 0, pos := "web.go:75", after := #[], guard := none }) (v := .pointer (some ⟨w.heap.size, 3, none⟩)) rfl (by kernel_rfl) (by kernel_rfl) (by kernel_rfl) (fun _ _ _ h => h) (Or.inl ⟨by kernel_rfl, ?_⟩) hS ?_
      · intro w5 hSw
        clear hSw hS
        go_simp
      simp only [Act.put, List.setIfInBounds_toArray, List.set_cons_zero, List.set_cons_succ]
      refine wpAnyH_take (i := 15) (oi := { dst := some 41, op := Go.Op.load 22 (Go.Operand.tmp 40), type := 22, pos := "web.go:75", after := #[{ on := 14, ground := Go.Ground.data }], guard := none }) (v := .slice ab nb cb') rfl (by kernel_rfl) (by kernel_rfl) (by kernel_rfl) (fun _ _ _ h => h) (Or.inl ⟨by kernel_rfl, ?_⟩) hS ?_
      · intro w5 hSw
        have h0 := hSw.1.cell (i := 3) rfl
        clear hSw hS
        go_simp
      simp only [Act.put, List.setIfInBounds_toArray, List.set_cons_zero, List.set_cons_succ]
      refine wpAnyH_ready (rs := [2]) (by kernel_rfl) (by simp) ?_
      refine AllReadyH.cons (o := { dst := some 28, op := Go.Op.call { callee := Go.Callee.value (Go.Operand.func 37), args := #[Go.Operand.tmp 27], argTypes := #[3] }, type := 9, pos := "web.go:75", after := #[{ on := 1, ground := Go.Ground.data }], guard := none }) rfl (fun K hK => ?_) AllReadyH.nil
      rw [if_pos (by kernel_rfl)]
      go_simp
      refine (versionText_walk mi hm0 hm1 w6.drew (HW.out.up HUd.out).gn).mono ?_
      rintro e w7 ⟨rfl, h9⟩
      have HU7 := Hid.of (HUd.out.trans h9)
      have HA7 := Hid.of (HAd.out.up h9)
      have HF7 := Hid.of (HFd.out.up h9)
      clear h9 hS
      rw [HVx.out]
      dsimp only
      refine hK.out _ _ ⟨HA7.out, HW.out.up HU7.out, HU7.out⟩ (fun hS => ?_)
      clear hK K
      refine wpAnyH_take (i := 3) (oi := { dst := some 29, op := Go.Op.binOp Go.BinOp.add 9 (Go.Operand.tmp 28) (Go.Operand.const (Go.Value.string { data := #[32] })) 9, type := 9, pos := "web.go:75", after := #[{ on := 2, ground := Go.Ground.data }], guard := none }) (v := .string (vt ++ (⟨#[32]⟩ : ByteArray))) rfl (by kernel_rfl) (by kernel_rfl) (by kernel_rfl) (fun _ _ _ h => h) (Or.inl ⟨by kernel_rfl, ?_⟩) hS ?_
      · intro w5 hSw
        clear hSw hS
        have hvz := HVz.out
        have hsz := HSz.out
        have hrz := HRz.out
        go_simp
      simp only [Act.put, List.setIfInBounds_toArray, List.set_cons_zero, List.set_cons_succ]
      refine wpAnyH_ready (rs := [6]) (by kernel_rfl) (by simp) ?_
      refine AllReadyH.cons (o := { dst := some 32, op := Go.Op.call { callee := Go.Callee.value (Go.Operand.func 45), args := #[Go.Operand.tmp 31], argTypes := #[3] }, type := 9, pos := "web.go:75", after := #[{ on := 5, ground := Go.Ground.data }, { on := 2, ground := Go.Ground.chain }], guard := none }) rfl (fun K hK => ?_) AllReadyH.nil
      rw [if_pos (by kernel_rfl)]
      go_simp
      refine (statusText_walk st hs0 hs1 w7 (HW.out.up HU7.out).gn).mono ?_
      rintro e w8 ⟨rfl, h9⟩
      have HU8 := Hid.of (HU7.out.trans h9)
      have HA8 := Hid.of (HA7.out.up h9)
      have HF8 := Hid.of (HF7.out.up h9)
      clear h9 hS
      rw [HSx.out]
      dsimp only
      refine hK.out _ _ ⟨HA8.out, HW.out.up HU8.out, HU8.out⟩ (fun hS => ?_)
      clear hK K
      refine wpAnyH_take (i := 7) (oi := { dst := some 33, op := Go.Op.binOp Go.BinOp.add 9 (Go.Operand.tmp 29) (Go.Operand.tmp 32) 9, type := 9, pos := "web.go:75", after := #[{ on := 3, ground := Go.Ground.data }, { on := 6, ground := Go.Ground.data }], guard := none }) (v := .string (vt ++ (⟨#[32]⟩ : ByteArray) ++ sx)) rfl (by kernel_rfl) (by kernel_rfl) (by kernel_rfl) (fun _ _ _ h => h) (Or.inl ⟨by kernel_rfl, ?_⟩) hS ?_
      · intro w5 hSw
        clear hSw hS
        have hvz := HVz.out
        have hsz := HSz.out
        have hrz := HRz.out
        go_simp
      simp only [Act.put, List.setIfInBounds_toArray, List.set_cons_zero, List.set_cons_succ]
      refine wpAnyH_take (i := 8) (oi := { dst := some 34, op := Go.Op.binOp Go.BinOp.add 9 (Go.Operand.tmp 33) (Go.Operand.const (Go.Value.string { data := #[32] })) 9, type := 9, pos := "web.go:75", after := #[{ on := 7, ground := Go.Ground.data }], guard := none }) (v := .string (vt ++ (⟨#[32]⟩ : ByteArray) ++ sx ++ (⟨#[32]⟩ : ByteArray))) rfl (by kernel_rfl) (by kernel_rfl) (by kernel_rfl) (fun _ _ _ h => h) (Or.inl ⟨by kernel_rfl, ?_⟩) hS ?_
      · intro w5 hSw
        clear hSw hS
        have hvz := HVz.out
        have hsz := HSz.out
        have hrz := HRz.out
        go_simp
      simp only [Act.put, List.setIfInBounds_toArray, List.set_cons_zero, List.set_cons_succ]
      refine wpAnyH_ready (rs := [11]) (by kernel_rfl) (by simp) ?_
      refine AllReadyH.cons (o := { dst := some 37, op := Go.Op.call { callee := Go.Callee.value (Go.Operand.func 46), args := #[Go.Operand.tmp 36], argTypes := #[3] }, type := 9, pos := "web.go:75", after := #[{ on := 10, ground := Go.Ground.data }, { on := 6, ground := Go.Ground.chain }], guard := none }) rfl (fun K hK => ?_) AllReadyH.nil
      rw [if_pos (by kernel_rfl)]
      go_simp
      refine (Reason_walk st hs0 hs1 w8 (HW.out.up HU8.out).gn (range_up HRs.out HU8.out)).mono ?_
      rintro e w9 ⟨rfl, h9⟩
      have HU9 := Hid.of (HU8.out.trans h9)
      have HA9 := Hid.of (HA8.out.up h9)
      have HF9 := Hid.of (HF8.out.up h9)
      clear h9 hS
      rw [HRx.out]
      dsimp only
      refine hK.out _ _ ⟨HA9.out, HW.out.up HU9.out, HU9.out⟩ (fun hS => ?_)
      clear hK K
      refine wpAnyH_take (i := 12) (oi := { dst := some 38, op := Go.Op.binOp Go.BinOp.add 9 (Go.Operand.tmp 34) (Go.Operand.tmp 37) 9, type := 9, pos := "web.go:75", after := #[{ on := 8, ground := Go.Ground.data }, { on := 11, ground := Go.Ground.data }], guard := none }) (v := .string (vt ++ (⟨#[32]⟩ : ByteArray) ++ sx ++ (⟨#[32]⟩ : ByteArray) ++ rx)) rfl (by kernel_rfl) (by kernel_rfl) (by kernel_rfl) (fun _ _ _ h => h) (Or.inl ⟨by kernel_rfl, ?_⟩) hS ?_
      · intro w5 hSw
        clear hSw hS
        have hvz := HVz.out
        have hsz := HSz.out
        have hrz := HRz.out
        go_simp
      simp only [Act.put, List.setIfInBounds_toArray, List.set_cons_zero, List.set_cons_succ]
      refine wpAnyH_ready (rs := [16]) (by kernel_rfl) (by simp) ?_
      refine AllReadyH.cons (o := { dst := some 42, op := Go.Op.call { callee := Go.Callee.value (Go.Operand.func 36), args := #[Go.Operand.tmp 38, Go.Operand.tmp 39, Go.Operand.tmp 41], argTypes := #[9, 25, 22] }, type := 22, pos := "web.go:75", after := #[{ on := 12, ground := Go.Ground.data }, { on := 13, ground := Go.Ground.data }, { on := 15, ground := Go.Ground.data }, { on := 11, ground := Go.Ground.chain }], guard := none }) rfl (fun K hK => ?_) AllReadyH.nil
      rw [if_pos (by kernel_rfl)]
      go_simp
      refine (HPm.out w9 HF9.out (HB.out.up HU9.out)).mono ?_
      rintro e w10 ⟨⟨a8, c8, rfl, hO8⟩, h9⟩
      have HU10 := Hid.of (HU9.out.trans h9)
      have HA10 := Hid.of (HA9.out.up h9)
      have HO8 := Hid.of (show Ow w10 w.heap.size _ _ from ow_base hO8.out HU9.out.size)
      clear h9 hS hO8
      dsimp only
      refine hK.out _ _ ⟨HA10.out, HW.out.up HU10.out, HU10.out⟩ (fun hS => ?_)
      clear hK K
      refine wpAnyH_take (i := 17) (oi := { dst := some 2, op := Go.Op.assign (Go.Operand.tmp 42), type := 22, pos := "web.go:75", after := #[{ on := 16, ground := Go.Ground.data }, { on := 16, ground := Go.Ground.chain }, { on := 0, ground := Go.Ground.phase }, { on := 1, ground := Go.Ground.phase }, { on := 2, ground := Go.Ground.phase }, { on := 3, ground := Go.Ground.phase }, { on := 4, ground := Go.Ground.phase }, { on := 5, ground := Go.Ground.phase }, { on := 6, ground := Go.Ground.phase }, { on := 7, ground := Go.Ground.phase }, { on := 8, ground := Go.Ground.phase }, { on := 9, ground := Go.Ground.phase }, { on := 10, ground := Go.Ground.phase }, { on := 11, ground := Go.Ground.phase }, { on := 12, ground := Go.Ground.phase }, { on := 13, ground := Go.Ground.phase }, { on := 14, ground := Go.Ground.phase }, { on := 15, ground := Go.Ground.phase }, { on := 16, ground := Go.Ground.phase }], guard := none }) (v := .slice a8 L c8) rfl (by kernel_rfl) (by kernel_rfl) (by kernel_rfl) (fun _ _ _ h => h) (Or.inl ⟨by kernel_rfl, ?_⟩) hS ?_
      · intro w5 hSw
        clear hSw hS
        go_simp
      simp only [Act.put, List.setIfInBounds_toArray, List.set_cons_zero, List.set_cons_succ]
      refine wpAnyH_take (i := 18) (oi := { dst := some 3, op := Go.Op.assign (Go.Operand.const (Go.Value.int Go.IntKind.i64 0)), type := 28, pos := "web.go:75", after := #[{ on := 17, ground := Go.Ground.chain }, { on := 0, ground := Go.Ground.phase }, { on := 1, ground := Go.Ground.phase }, { on := 2, ground := Go.Ground.phase }, { on := 3, ground := Go.Ground.phase }, { on := 4, ground := Go.Ground.phase }, { on := 5, ground := Go.Ground.phase }, { on := 6, ground := Go.Ground.phase }, { on := 7, ground := Go.Ground.phase }, { on := 8, ground := Go.Ground.phase }, { on := 9, ground := Go.Ground.phase }, { on := 10, ground := Go.Ground.phase }, { on := 11, ground := Go.Ground.phase }, { on := 12, ground := Go.Ground.phase }, { on := 13, ground := Go.Ground.phase }, { on := 14, ground := Go.Ground.phase }, { on := 15, ground := Go.Ground.phase }, { on := 16, ground := Go.Ground.phase }, { on := 17, ground := Go.Ground.phase }], guard := none }) (v := .int .i64 0) rfl (by kernel_rfl) (by kernel_rfl) (by kernel_rfl) (fun _ _ _ h => h) (Or.inl ⟨by kernel_rfl, ?_⟩) hS ?_
      · intro w5 hSw
        clear hSw hS
        go_simp
      simp only [Act.put, List.setIfInBounds_toArray, List.set_cons_zero, List.set_cons_succ]
      clear hS
      refine wpAnyH_done (by kernel_rfl) ?_ _
      go_wp2
      go_ret2
      rw [HE.out]
      exact ⟨⟨a8, c8, by rw [HL.out]; rfl, Hid.of (by rw [HL.out]; exact HO8.out)⟩, HU10.out⟩
  | true =>
    have HFr := Hid.of (show raF st fs nb = pfs fs by unfold raF; rw [if_pos hb0])
    clear hb0
    have HF4 := Hid.of HO2.out.fdl
    have hZ := HZf.out
    rw [HFr.out] at hZ
    generalize pfs fs = F at HF4 HFr hZ ⊢
    have hFz : szs F ≤ 1099511627776 := by omega
    clear hZ
    obtain ⟨nF, hnF⟩ : ∃ nF, F.length = nF := ⟨_, rfl⟩
    have HNF := Hid.of hnF
    have hnFc := HF4.out.cap
    have HCk := Hid.of (checkResponse_walk ad st mi a fs.length c ab nb cb' cl a2 F c2 w2 HF4.out (HW.out.up HU2.out) hFz hnb)
    have HPm := Hid.of (fun (st : ByteArray) (w7 : World) (h1 : FdL w7 a2 F c2) (h2 : Sb w7 (.slice ab nb cb') bd) h3 h4 h5 => printMessage_walk st a2 F c2 ab nb cb' bd w7 h1 h2 h3 h4 h5)
    rw [hnF] at HCk HPm hnFc ⊢
    clear hnF
    go_wp2_with (with_reducible show wpList _ _ _ ({ dst := _, op := Op.load 33 _, type := _, pos := _, after := _, guard := _ } :: _) _ _; refine Shut.out ?_)
    show wpList _ _ _ _ _ _
    refine wpList_load_mid rfl _ _ rfl w.heap.size 0 rfl [.int .i64 st, .int .i64 mi, .slice a fs.length c, .slice ab nb cb', .bool cl] _ HA2.out.range Tryz.underlying33 rfl (by kernel_rfl) ?_
    simp only [Act.put, List.setIfInBounds_toArray, List.set_cons_zero, List.set_cons_succ]
    go_wp2_with fail
    refine HCk.out.mono ?_
    rintro e w6 ⟨rfl, h9⟩
    have HU6 := Hid.of (HU2.out.trans h9)
    have HA6 := Hid.of (HA2.out.up h9)
    have HF6 := Hid.of (HF4.out.up h9)
    clear h9
    dsimp only
    cases hck : ckr st mi F nb with
    | some k =>
      have HE := Hid.of (show rv = .error k by rw [← HR.out]; unfold raQ; rw [← HBn.out, HFr.out, hck])
      have hk := ckr_lt hck
      rw [show eoV ad (some k) = ev (ad k) from rfl]
      have hne := ev_neq ad k
      clear hck
      go_wp2_with fail
      refine (numberOf_err ad k hk w6 (HW.out.up HU6.out).ge).mono ?_
      rintro e w7 ⟨rfl, h9⟩
      have HU7 := Hid.of (HU6.out.trans h9)
      clear h9
      dsimp only
      go_wp2
      go_ret2
      rw [HE.out]
      exact ⟨rfl, HU7.out⟩
    | none =>
      have HE := Hid.of (show rv = .ok (prt (raS st mi) F bd) by rw [← HR.out]; unfold raQ; rw [← HBn.out, HFr.out, hck])
      obtain ⟨hq1, hq2, hq3, hq4, hq5, hq6⟩ := ckr_ok hck
      rw [show eoV ad none = Value.nilIface from rfl]
      have HSt := Hid.of (show (vt ++ (⟨#[32]⟩ : ByteArray) ++ sx ++ (⟨#[32]⟩ : ByteArray) ++ rx).data.toList = raS st mi by rw [bat_app, bat_app, bat_app, bat_app]; unfold raS; rw [HVd.out, HSd.out, HRd.out])
      have hsz4 : (vt ++ (⟨#[32]⟩ : ByteArray) ++ sx ++ (⟨#[32]⟩ : ByteArray) ++ rx).size ≤ 1048576 := by
        rw [Go.Lib.size_eq, HSt.out]
        exact Nat.le_trans (raS_no hq3 hq2).2 (by decide)
      have hsm : vl ≤ 100 ∧ sl ≤ 100 ∧ rl ≤ 100 := by
        have h1 := (raS_no hq3 hq2).2
        have h2 := HVn.out
        have h3 := HSn.out
        have h4 := HRn.out
        unfold raS at h1
        simp only [List.length_append, List.length_cons, List.length_nil] at h1
        omega
      obtain ⟨hvl, hsl2, hrl⟩ := hsm
      have HPm := Hid.of (fun w7 h1 h2 => HPm.out (vt ++ (⟨#[32]⟩ : ByteArray) ++ sx ++ (⟨#[32]⟩ : ByteArray) ++ rx) w7 h1 h2 hsz4 (by omega) (by rw [← HBn.out]; exact hq5))
      rw [HSt.out] at HPm
      clear hsz4 HSt
      obtain ⟨L, hL⟩ : ∃ L, (prt (raS st mi) F bd).length = L := ⟨_, rfl⟩
      have HL := Hid.of hL
      rw [hL] at HPm
      clear hL hck
      have hl1 : ¬ 9223372036854775807 < vl + 1 := by omega
      have hl2 : ¬ 9223372036854775807 < vl + 1 + sl := by omega
      have hl3 : ¬ 9223372036854775807 < vl + 1 + sl + 1 := by omega
      have hl4 : ¬ 9223372036854775807 < vl + 1 + sl + 1 + rl := by omega
      go_wp2
      have HUd := Hid.of HU6.out.drew
      have HAd := Hid.of (HA6.out.up (Up.refl _).drew)
      have HFd := Hid.of (HF6.out.up (Up.refl _).drew)
      refine wp_region_held_drew (S := fun w2 => At w2 w.heap.size 33 [.int .i64 st, .int .i64 mi, .slice a fs.length c, .slice ab nb cb', .bool cl] ∧ GW w2 ad ∧ Up w w2) (by kernel_rfl) ⟨HAd.out, HW.out.up HUd.out, HUd.out⟩ (fun hS => ?_)
      refine wpAnyH_take (i := 0) (oi := { dst := some 26, op := Go.Op.fieldAddr 33 (Go.Operand.tmp 1) 1, type := 0, pos := "web.go:75", after := #[], guard := none }) (v := .pointer (some ⟨w.heap.size, 1, none⟩)) rfl (by kernel_rfl) (by kernel_rfl) (by kernel_rfl) (fun _ _ _ h => h) (Or.inl ⟨by kernel_rfl, ?_⟩) hS ?_
      · intro w5 hSw
        clear hSw hS
        go_simp
      simp only [Act.put, List.setIfInBounds_toArray, List.set_cons_zero, List.set_cons_succ]
      refine wpAnyH_take (i := 1) (oi := { dst := some 27, op := Go.Op.load 3 (Go.Operand.tmp 26), type := 3, pos := "web.go:75", after := #[{ on := 0, ground := Go.Ground.data }], guard := none }) (v := .int .i64 mi) rfl (by kernel_rfl) (by kernel_rfl) (by kernel_rfl) (fun _ _ _ h => h) (Or.inl ⟨by kernel_rfl, ?_⟩) hS ?_
      · intro w5 hSw
        have h0 := hSw.1.cell (i := 1) rfl
        clear hSw hS
        go_simp
      simp only [Act.put, List.setIfInBounds_toArray, List.set_cons_zero, List.set_cons_succ]
      refine wpAnyH_take (i := 4) (oi := { dst := some 30, op := Go.Op.fieldAddr 33 (Go.Operand.tmp 1) 0, type := 0, pos := "web.go:75", after := #[], guard := none }) (v := .pointer (some ⟨w.heap.size, 0, none⟩)) rfl (by kernel_rfl) (by kernel_rfl) (by kernel_rfl) (fun _ _ _ h => h) (Or.inl ⟨by kernel_rfl, ?_⟩) hS ?_
      · intro w5 hSw
        clear hSw hS
        go_simp
      simp only [Act.put, List.setIfInBounds_toArray, List.set_cons_zero, List.set_cons_succ]
      refine wpAnyH_take (i := 5) (oi := { dst := some 31, op := Go.Op.load 3 (Go.Operand.tmp 30), type := 3, pos := "web.go:75", after := #[{ on := 4, ground := Go.Ground.data }], guard := none }) (v := .int .i64 st) rfl (by kernel_rfl) (by kernel_rfl) (by kernel_rfl) (fun _ _ _ h => h) (Or.inl ⟨by kernel_rfl, ?_⟩) hS ?_
      · intro w5 hSw
        have h0 := hSw.1.cell (i := 0) rfl
        clear hSw hS
        go_simp
      simp only [Act.put, List.setIfInBounds_toArray, List.set_cons_zero, List.set_cons_succ]
      refine wpAnyH_take (i := 9) (oi := { dst := some 35, op := Go.Op.fieldAddr 33 (Go.Operand.tmp 1) 0, type := 0, pos := "web.go:75", after := #[], guard := none }) (v := .pointer (some ⟨w.heap.size, 0, none⟩)) rfl (by kernel_rfl) (by kernel_rfl) (by kernel_rfl) (fun _ _ _ h => h) (Or.inl ⟨by kernel_rfl, ?_⟩) hS ?_
      · intro w5 hSw
        clear hSw hS
        go_simp
      simp only [Act.put, List.setIfInBounds_toArray, List.set_cons_zero, List.set_cons_succ]
      refine wpAnyH_take (i := 10) (oi := { dst := some 36, op := Go.Op.load 3 (Go.Operand.tmp 35), type := 3, pos := "web.go:75", after := #[{ on := 9, ground := Go.Ground.data }], guard := none }) (v := .int .i64 st) rfl (by kernel_rfl) (by kernel_rfl) (by kernel_rfl) (fun _ _ _ h => h) (Or.inl ⟨by kernel_rfl, ?_⟩) hS ?_
      · intro w5 hSw
        have h0 := hSw.1.cell (i := 0) rfl
        clear hSw hS
        go_simp
      simp only [Act.put, List.setIfInBounds_toArray, List.set_cons_zero, List.set_cons_succ]
      refine wpAnyH_take (i := 13) (oi := { dst := some 39, op := Go.Op.move (Go.Operand.tmp 4), type := 25, pos := "web.go:75", after := #[], guard := none }) (v := .slice a2 nF c2) rfl (by kernel_rfl) (by kernel_rfl) (by kernel_rfl) (fun _ _ _ h => h) (Or.inl ⟨by kernel_rfl, ?_⟩) hS ?_
      · intro w5 hSw
        clear hSw hS
        go_simp
      simp only [Act.put, List.setIfInBounds_toArray, List.set_cons_zero, List.set_cons_succ]
      refine wpAnyH_take (i := 14) (oi := { dst := some 40, op := Go.Op.fieldAddr 33 (Go.Operand.tmp 1) 3, type := 0, pos := "web.go:75", after := #[], guard := none }) (v := .pointer (some ⟨w.heap.size, 3, none⟩)) rfl (by kernel_rfl) (by kernel_rfl) (by kernel_rfl) (fun _ _ _ h => h) (Or.inl ⟨by kernel_rfl, ?_⟩) hS ?_
      · intro w5 hSw
        clear hSw hS
        go_simp
      simp only [Act.put, List.setIfInBounds_toArray, List.set_cons_zero, List.set_cons_succ]
      refine wpAnyH_take (i := 15) (oi := { dst := some 41, op := Go.Op.load 22 (Go.Operand.tmp 40), type := 22, pos := "web.go:75", after := #[{ on := 14, ground := Go.Ground.data }], guard := none }) (v := .slice ab nb cb') rfl (by kernel_rfl) (by kernel_rfl) (by kernel_rfl) (fun _ _ _ h => h) (Or.inl ⟨by kernel_rfl, ?_⟩) hS ?_
      · intro w5 hSw
        have h0 := hSw.1.cell (i := 3) rfl
        clear hSw hS
        go_simp
      simp only [Act.put, List.setIfInBounds_toArray, List.set_cons_zero, List.set_cons_succ]
      refine wpAnyH_ready (rs := [2]) (by kernel_rfl) (by simp) ?_
      refine AllReadyH.cons (o := { dst := some 28, op := Go.Op.call { callee := Go.Callee.value (Go.Operand.func 37), args := #[Go.Operand.tmp 27], argTypes := #[3] }, type := 9, pos := "web.go:75", after := #[{ on := 1, ground := Go.Ground.data }], guard := none }) rfl (fun K hK => ?_) AllReadyH.nil
      rw [if_pos (by kernel_rfl)]
      go_simp
      refine (versionText_walk mi hm0 hm1 w6.drew (HW.out.up HUd.out).gn).mono ?_
      rintro e w7 ⟨rfl, h9⟩
      have HU7 := Hid.of (HUd.out.trans h9)
      have HA7 := Hid.of (HAd.out.up h9)
      have HF7 := Hid.of (HFd.out.up h9)
      clear h9 hS
      rw [HVx.out]
      dsimp only
      refine hK.out _ _ ⟨HA7.out, HW.out.up HU7.out, HU7.out⟩ (fun hS => ?_)
      clear hK K
      refine wpAnyH_take (i := 3) (oi := { dst := some 29, op := Go.Op.binOp Go.BinOp.add 9 (Go.Operand.tmp 28) (Go.Operand.const (Go.Value.string { data := #[32] })) 9, type := 9, pos := "web.go:75", after := #[{ on := 2, ground := Go.Ground.data }], guard := none }) (v := .string (vt ++ (⟨#[32]⟩ : ByteArray))) rfl (by kernel_rfl) (by kernel_rfl) (by kernel_rfl) (fun _ _ _ h => h) (Or.inl ⟨by kernel_rfl, ?_⟩) hS ?_
      · intro w5 hSw
        clear hSw hS
        have hvz := HVz.out
        have hsz := HSz.out
        have hrz := HRz.out
        go_simp
      simp only [Act.put, List.setIfInBounds_toArray, List.set_cons_zero, List.set_cons_succ]
      refine wpAnyH_ready (rs := [6]) (by kernel_rfl) (by simp) ?_
      refine AllReadyH.cons (o := { dst := some 32, op := Go.Op.call { callee := Go.Callee.value (Go.Operand.func 45), args := #[Go.Operand.tmp 31], argTypes := #[3] }, type := 9, pos := "web.go:75", after := #[{ on := 5, ground := Go.Ground.data }, { on := 2, ground := Go.Ground.chain }], guard := none }) rfl (fun K hK => ?_) AllReadyH.nil
      rw [if_pos (by kernel_rfl)]
      go_simp
      refine (statusText_walk st hs0 hs1 w7 (HW.out.up HU7.out).gn).mono ?_
      rintro e w8 ⟨rfl, h9⟩
      have HU8 := Hid.of (HU7.out.trans h9)
      have HA8 := Hid.of (HA7.out.up h9)
      have HF8 := Hid.of (HF7.out.up h9)
      clear h9 hS
      rw [HSx.out]
      dsimp only
      refine hK.out _ _ ⟨HA8.out, HW.out.up HU8.out, HU8.out⟩ (fun hS => ?_)
      clear hK K
      refine wpAnyH_take (i := 7) (oi := { dst := some 33, op := Go.Op.binOp Go.BinOp.add 9 (Go.Operand.tmp 29) (Go.Operand.tmp 32) 9, type := 9, pos := "web.go:75", after := #[{ on := 3, ground := Go.Ground.data }, { on := 6, ground := Go.Ground.data }], guard := none }) (v := .string (vt ++ (⟨#[32]⟩ : ByteArray) ++ sx)) rfl (by kernel_rfl) (by kernel_rfl) (by kernel_rfl) (fun _ _ _ h => h) (Or.inl ⟨by kernel_rfl, ?_⟩) hS ?_
      · intro w5 hSw
        clear hSw hS
        have hvz := HVz.out
        have hsz := HSz.out
        have hrz := HRz.out
        go_simp
      simp only [Act.put, List.setIfInBounds_toArray, List.set_cons_zero, List.set_cons_succ]
      refine wpAnyH_take (i := 8) (oi := { dst := some 34, op := Go.Op.binOp Go.BinOp.add 9 (Go.Operand.tmp 33) (Go.Operand.const (Go.Value.string { data := #[32] })) 9, type := 9, pos := "web.go:75", after := #[{ on := 7, ground := Go.Ground.data }], guard := none }) (v := .string (vt ++ (⟨#[32]⟩ : ByteArray) ++ sx ++ (⟨#[32]⟩ : ByteArray))) rfl (by kernel_rfl) (by kernel_rfl) (by kernel_rfl) (fun _ _ _ h => h) (Or.inl ⟨by kernel_rfl, ?_⟩) hS ?_
      · intro w5 hSw
        clear hSw hS
        have hvz := HVz.out
        have hsz := HSz.out
        have hrz := HRz.out
        go_simp
      simp only [Act.put, List.setIfInBounds_toArray, List.set_cons_zero, List.set_cons_succ]
      refine wpAnyH_ready (rs := [11]) (by kernel_rfl) (by simp) ?_
      refine AllReadyH.cons (o := { dst := some 37, op := Go.Op.call { callee := Go.Callee.value (Go.Operand.func 46), args := #[Go.Operand.tmp 36], argTypes := #[3] }, type := 9, pos := "web.go:75", after := #[{ on := 10, ground := Go.Ground.data }, { on := 6, ground := Go.Ground.chain }], guard := none }) rfl (fun K hK => ?_) AllReadyH.nil
      rw [if_pos (by kernel_rfl)]
      go_simp
      refine (Reason_walk st hs0 hs1 w8 (HW.out.up HU8.out).gn (range_up HRs.out HU8.out)).mono ?_
      rintro e w9 ⟨rfl, h9⟩
      have HU9 := Hid.of (HU8.out.trans h9)
      have HA9 := Hid.of (HA8.out.up h9)
      have HF9 := Hid.of (HF8.out.up h9)
      clear h9 hS
      rw [HRx.out]
      dsimp only
      refine hK.out _ _ ⟨HA9.out, HW.out.up HU9.out, HU9.out⟩ (fun hS => ?_)
      clear hK K
      refine wpAnyH_take (i := 12) (oi := { dst := some 38, op := Go.Op.binOp Go.BinOp.add 9 (Go.Operand.tmp 34) (Go.Operand.tmp 37) 9, type := 9, pos := "web.go:75", after := #[{ on := 8, ground := Go.Ground.data }, { on := 11, ground := Go.Ground.data }], guard := none }) (v := .string (vt ++ (⟨#[32]⟩ : ByteArray) ++ sx ++ (⟨#[32]⟩ : ByteArray) ++ rx)) rfl (by kernel_rfl) (by kernel_rfl) (by kernel_rfl) (fun _ _ _ h => h) (Or.inl ⟨by kernel_rfl, ?_⟩) hS ?_
      · intro w5 hSw
        clear hSw hS
        have hvz := HVz.out
        have hsz := HSz.out
        have hrz := HRz.out
        go_simp
      simp only [Act.put, List.setIfInBounds_toArray, List.set_cons_zero, List.set_cons_succ]
      refine wpAnyH_ready (rs := [16]) (by kernel_rfl) (by simp) ?_
      refine AllReadyH.cons (o := { dst := some 42, op := Go.Op.call { callee := Go.Callee.value (Go.Operand.func 36), args := #[Go.Operand.tmp 38, Go.Operand.tmp 39, Go.Operand.tmp 41], argTypes := #[9, 25, 22] }, type := 22, pos := "web.go:75", after := #[{ on := 12, ground := Go.Ground.data }, { on := 13, ground := Go.Ground.data }, { on := 15, ground := Go.Ground.data }, { on := 11, ground := Go.Ground.chain }], guard := none }) rfl (fun K hK => ?_) AllReadyH.nil
      rw [if_pos (by kernel_rfl)]
      go_simp
      refine (HPm.out w9 HF9.out (HB.out.up HU9.out)).mono ?_
      rintro e w10 ⟨⟨a8, c8, rfl, hO8⟩, h9⟩
      have HU10 := Hid.of (HU9.out.trans h9)
      have HA10 := Hid.of (HA9.out.up h9)
      have HO8 := Hid.of (show Ow w10 w.heap.size _ _ from ow_base hO8.out HU9.out.size)
      clear h9 hS hO8
      dsimp only
      refine hK.out _ _ ⟨HA10.out, HW.out.up HU10.out, HU10.out⟩ (fun hS => ?_)
      clear hK K
      refine wpAnyH_take (i := 17) (oi := { dst := some 2, op := Go.Op.assign (Go.Operand.tmp 42), type := 22, pos := "web.go:75", after := #[{ on := 16, ground := Go.Ground.data }, { on := 16, ground := Go.Ground.chain }, { on := 0, ground := Go.Ground.phase }, { on := 1, ground := Go.Ground.phase }, { on := 2, ground := Go.Ground.phase }, { on := 3, ground := Go.Ground.phase }, { on := 4, ground := Go.Ground.phase }, { on := 5, ground := Go.Ground.phase }, { on := 6, ground := Go.Ground.phase }, { on := 7, ground := Go.Ground.phase }, { on := 8, ground := Go.Ground.phase }, { on := 9, ground := Go.Ground.phase }, { on := 10, ground := Go.Ground.phase }, { on := 11, ground := Go.Ground.phase }, { on := 12, ground := Go.Ground.phase }, { on := 13, ground := Go.Ground.phase }, { on := 14, ground := Go.Ground.phase }, { on := 15, ground := Go.Ground.phase }, { on := 16, ground := Go.Ground.phase }], guard := none }) (v := .slice a8 L c8) rfl (by kernel_rfl) (by kernel_rfl) (by kernel_rfl) (fun _ _ _ h => h) (Or.inl ⟨by kernel_rfl, ?_⟩) hS ?_
      · intro w5 hSw
        clear hSw hS
        go_simp
      simp only [Act.put, List.setIfInBounds_toArray, List.set_cons_zero, List.set_cons_succ]
      refine wpAnyH_take (i := 18) (oi := { dst := some 3, op := Go.Op.assign (Go.Operand.const (Go.Value.int Go.IntKind.i64 0)), type := 28, pos := "web.go:75", after := #[{ on := 17, ground := Go.Ground.chain }, { on := 0, ground := Go.Ground.phase }, { on := 1, ground := Go.Ground.phase }, { on := 2, ground := Go.Ground.phase }, { on := 3, ground := Go.Ground.phase }, { on := 4, ground := Go.Ground.phase }, { on := 5, ground := Go.Ground.phase }, { on := 6, ground := Go.Ground.phase }, { on := 7, ground := Go.Ground.phase }, { on := 8, ground := Go.Ground.phase }, { on := 9, ground := Go.Ground.phase }, { on := 10, ground := Go.Ground.phase }, { on := 11, ground := Go.Ground.phase }, { on := 12, ground := Go.Ground.phase }, { on := 13, ground := Go.Ground.phase }, { on := 14, ground := Go.Ground.phase }, { on := 15, ground := Go.Ground.phase }, { on := 16, ground := Go.Ground.phase }, { on := 17, ground := Go.Ground.phase }], guard := none }) (v := .int .i64 0) rfl (by kernel_rfl) (by kernel_rfl) (by kernel_rfl) (fun _ _ _ h => h) (Or.inl ⟨by kernel_rfl, ?_⟩) hS ?_
      · intro w5 hSw
        clear hSw hS
        go_simp
      simp only [Act.put, List.setIfInBounds_toArray, List.set_cons_zero, List.set_cons_succ]
      clear hS
      refine wpAnyH_done (by kernel_rfl) ?_ _
      go_wp2
      go_ret2
      rw [HE.out]
      exact ⟨⟨a8, c8, by rw [HL.out]; rfl, Hid.of (by rw [HL.out]; exact HO8.out)⟩, HU10.out⟩
end Go.Proofs.YtbgjnghjddcooaaGreatDoor
namespace Go.Proofs.YtbgjnghjddcooaaGreatDoor
open Go.RowKit Go.Shelf TextNum
set_option maxRecDepth 100000 in
set_option maxHeartbeats 8000000 in
theorem response_walk (st mi : Int) (an : Option Addr) (ns : List ByteArray) (cn : Nat) (av : Option Addr) (us : List ByteArray) (cv : Nat) (ab : Option Addr) (nb cb' : Nat) (bd : List UInt8) (pad : Int) (w : World) (hN : StL w an ns cn) (hV : StL w av us cv) (hB : Sb w (.slice ab nb cb') bd) (hnl : ns.length ≤ 1048576) (hbl : bd.length ≤ 1048576) :
    Calls Tryz.prog 25 #[.agg #[.int .i64 st, .int .i64 mi, .slice an ns.length cn, .slice av us.length cv, .slice ab nb cb', .int .i64 pad]] w fun e w' => (∃ a c v, e = .returned (.agg #[.int .i64 st, .int .i64 mi, .slice a ns.length c, v, .bool false]) ∧ Hid (FdO w' w.heap.size a (mkF ns us) c ∧ Ow w' w.heap.size v (pdd bd pad))) ∧ Up w w' := by
  have HN := Hid.of hN
  have HV := Hid.of hV
  have HB := Hid.of hB
  have hcap := hN.cap
  have hcapv := hV.cap
  obtain ⟨hbn, hbc, hbm⟩ := hB.len
  unfold maxLen at hbm
  clear hN hV hB hbn
  obtain ⟨F, hF⟩ : ∃ F, mkF ns us = F := ⟨_, rfl⟩
  have HFl := Hid.of (show F.length = ns.length by rw [← hF, mkF_len])
  have HFg := Hid.of (show ∀ i (h : i < ns.length) (h' : i < F.length), F[i] = ⟨ns[i], vat us i⟩ by subst hF; exact fun i h h' => mkF_get h h')
  rw [hF]
  clear hF
  have HA0 := Hid.of ((at_new w 61 [.int .i64 st, .int .i64 mi, .slice an ns.length cn, .slice av us.length cv, .slice ab nb cb', .int .i64 pad]).up ((Up.refl _).alloc (.cells z5.toArray 33)))
  have HZ0 := Hid.of (at_new (w.alloc (.cells [.int .i64 st, .int .i64 mi, .slice an ns.length cn, .slice av us.length cv, .slice ab nb cb', .int .i64 pad].toArray 61)) 33 z5)
  have HU0 := Hid.of (((Up.refl w).alloc (.cells [.int .i64 st, .int .i64 mi, .slice an ns.length cn, .slice av us.length cv, .slice ab nb cb', .int .i64 pad].toArray 61)).alloc (.cells z5.toArray 33))
  rw [alloc_size] at HZ0
  go_enter Tryz.func25, Tryz.ntmps25
  go_wp2
  obtain ⟨w1, hw1⟩ : ∃ w1, (w.alloc (.cells [.int .i64 st, .int .i64 mi, .slice an ns.length cn, .slice av us.length cv, .slice ab nb cb', .int .i64 pad].toArray 61)).alloc (.cells z5.toArray 33) = w1 := ⟨_, rfl⟩
  have HS1 := Hid.of (show w.heap.size + 1 < w1.heap.size by rw [← hw1, alloc_size, alloc_size]; omega)
  rw [hw1] at HA0 HU0 HZ0
  change Code.wp _ _ _ _ ((w.alloc (.cells [.int .i64 st, .int .i64 mi, .slice an ns.length cn, .slice av us.length cv, .slice ab nb cb', .int .i64 pad].toArray 61)).alloc (.cells z5.toArray 33))
  rw [hw1]
  clear hw1
  refine wp_region_held_drew (S := fun w2 => At w2 w.heap.size 61 [.int .i64 st, .int .i64 mi, .slice an ns.length cn, .slice av us.length cv, .slice ab nb cb', .int .i64 pad] ∧ At w2 (w.heap.size + 1) 33 z5 ∧ Up w w2) (by kernel_rfl) ⟨HA0.out.up (Up.refl _).drew, HZ0.out.up (Up.refl _).drew, HU0.out.drew⟩ (fun hS => ?_)
  refine wpAnyH_take (i := 0) (oi := { dst := some 5, op := Go.Op.fieldAddr 61 (Go.Operand.tmp 1) 0, type := 0, pos := "law.go:124", after := #[], guard := none }) (v := .pointer (some ⟨w.heap.size, 0, none⟩)) rfl (by kernel_rfl) (by kernel_rfl) (by kernel_rfl) (fun _ _ _ h => h) (Or.inl ⟨by kernel_rfl, ?_⟩) hS ?_
  · intro w5 hSw
    clear hSw hS
    go_simp
  simp only [Act.put, List.setIfInBounds_toArray, List.set_cons_zero, List.set_cons_succ]
  refine wpAnyH_take (i := 1) (oi := { dst := some 6, op := Go.Op.load 3 (Go.Operand.tmp 5), type := 3, pos := "law.go:124", after := #[{ on := 0, ground := Go.Ground.data }], guard := none }) (v := .int .i64 st) rfl (by kernel_rfl) (by kernel_rfl) (by kernel_rfl) (fun _ _ _ h => h) (Or.inl ⟨by kernel_rfl, ?_⟩) hS ?_
  · intro w5 hSw
    have h0 := hSw.1.cell (i := 0) rfl
    clear hSw hS
    go_simp
  simp only [Act.put, List.setIfInBounds_toArray, List.set_cons_zero, List.set_cons_succ]
  refine wpAnyH_take (i := 2) (oi := { dst := some 7, op := Go.Op.fieldAddr 61 (Go.Operand.tmp 1) 1, type := 0, pos := "law.go:124", after := #[], guard := none }) (v := .pointer (some ⟨w.heap.size, 1, none⟩)) rfl (by kernel_rfl) (by kernel_rfl) (by kernel_rfl) (fun _ _ _ h => h) (Or.inl ⟨by kernel_rfl, ?_⟩) hS ?_
  · intro w5 hSw
    clear hSw hS
    go_simp
  simp only [Act.put, List.setIfInBounds_toArray, List.set_cons_zero, List.set_cons_succ]
  refine wpAnyH_take (i := 3) (oi := { dst := some 8, op := Go.Op.load 3 (Go.Operand.tmp 7), type := 3, pos := "law.go:124", after := #[{ on := 2, ground := Go.Ground.data }], guard := none }) (v := .int .i64 mi) rfl (by kernel_rfl) (by kernel_rfl) (by kernel_rfl) (fun _ _ _ h => h) (Or.inl ⟨by kernel_rfl, ?_⟩) hS ?_
  · intro w5 hSw
    have h0 := hSw.1.cell (i := 1) rfl
    clear hSw hS
    go_simp
  simp only [Act.put, List.setIfInBounds_toArray, List.set_cons_zero, List.set_cons_succ]
  refine wpAnyH_take (i := 4) (oi := { dst := some 9, op := Go.Op.fieldAddr 61 (Go.Operand.tmp 1) 4, type := 0, pos := "law.go:124", after := #[], guard := none }) (v := .pointer (some ⟨w.heap.size, 4, none⟩)) rfl (by kernel_rfl) (by kernel_rfl) (by kernel_rfl) (fun _ _ _ h => h) (Or.inl ⟨by kernel_rfl, ?_⟩) hS ?_
  · intro w5 hSw
    clear hSw hS
    go_simp
  simp only [Act.put, List.setIfInBounds_toArray, List.set_cons_zero, List.set_cons_succ]
  refine wpAnyH_take (i := 5) (oi := { dst := some 10, op := Go.Op.load 22 (Go.Operand.tmp 9), type := 22, pos := "law.go:124", after := #[{ on := 4, ground := Go.Ground.data }], guard := none }) (v := .slice ab nb cb') rfl (by kernel_rfl) (by kernel_rfl) (by kernel_rfl) (fun _ _ _ h => h) (Or.inl ⟨by kernel_rfl, ?_⟩) hS ?_
  · intro w5 hSw
    have h0 := hSw.1.cell (i := 4) rfl
    clear hSw hS
    go_simp
  simp only [Act.put, List.setIfInBounds_toArray, List.set_cons_zero, List.set_cons_succ]
  refine wpAnyH_take (i := 6) (oi := { dst := some 11, op := Go.Op.fieldAddr 61 (Go.Operand.tmp 1) 5, type := 0, pos := "law.go:124", after := #[], guard := none }) (v := .pointer (some ⟨w.heap.size, 5, none⟩)) rfl (by kernel_rfl) (by kernel_rfl) (by kernel_rfl) (fun _ _ _ h => h) (Or.inl ⟨by kernel_rfl, ?_⟩) hS ?_
  · intro w5 hSw
    clear hSw hS
    go_simp
  simp only [Act.put, List.setIfInBounds_toArray, List.set_cons_zero, List.set_cons_succ]
  refine wpAnyH_take (i := 7) (oi := { dst := some 12, op := Go.Op.load 3 (Go.Operand.tmp 11), type := 3, pos := "law.go:124", after := #[{ on := 6, ground := Go.Ground.data }], guard := none }) (v := .int .i64 pad) rfl (by kernel_rfl) (by kernel_rfl) (by kernel_rfl) (fun _ _ _ h => h) (Or.inl ⟨by kernel_rfl, ?_⟩) hS ?_
  · intro w5 hSw
    have h0 := hSw.1.cell (i := 5) rfl
    clear hSw hS
    go_simp
  simp only [Act.put, List.setIfInBounds_toArray, List.set_cons_zero, List.set_cons_succ]
  refine wpAnyH_ready (rs := [8, 10]) (by kernel_rfl) (by simp) ?_
  refine AllReadyH.cons (o := { dst := some 13, op := Go.Op.call { callee := Go.Callee.value (Go.Operand.func 10), args := #[Go.Operand.tmp 10, Go.Operand.tmp 12], argTypes := #[22, 3] }, type := 22, pos := "law.go:124", after := #[{ on := 5, ground := Go.Ground.data }, { on := 7, ground := Go.Ground.data }], guard := none }) rfl (fun K hK => ?_) (AllReadyH.cons (o := { dst := some 3, op := Go.Op.alloc 33, type := 0, pos := "law.go:124", after := #[], guard := none }) rfl (fun K hK => ?_) AllReadyH.nil)
  · rw [if_pos (by kernel_rfl)]
    go_simp
    refine (padded_walk (.slice ab nb cb') bd pad (by omega) w1.drew (HB.out.up (HU0.out.drew))).mono ?_
    rintro e w2 ⟨v5, rfl, hO, h9⟩
    obtain ⟨a5, c5, rfl⟩ := row_len hO
    have HO2 := Hid.of (show Ow w2 w.heap.size _ (pdd bd pad) from ow_base hO (HU0.out.drew).size)
    have HU2 := Hid.of ((HU0.out.drew).trans h9)
    have HA2 := Hid.of ((HA0.out.up (Up.refl _).drew).up h9)
    have HZ2 := Hid.of ((HZ0.out.up (Up.refl _).drew).up h9)
    have Hs2 := Hid.of (show w1.drew.heap.size ≤ w2.heap.size from h9.size)
    clear h9 hO hS
    obtain ⟨L5, hL5⟩ : ∃ L5, (pdd bd pad).length = L5 := ⟨_, rfl⟩
    have HL5 := Hid.of hL5
    rw [hL5] at HO2 ⊢
    clear hL5
    dsimp only
    refine hK.out _ _ ⟨HA2.out, HZ2.out, HU2.out⟩ (fun hS => ?_)
    clear hK K
    refine wpAnyH_take (i := 9) (oi := { dst := some 14, op := Go.Op.build 33 #[(0, Go.Operand.tmp 6), (1, Go.Operand.tmp 8), (3, Go.Operand.tmp 13)], type := 33, pos := "law.go:124", after := #[{ on := 1, ground := Go.Ground.data }, { on := 3, ground := Go.Ground.data }, { on := 8, ground := Go.Ground.data }], guard := none }) (v := .agg #[.int .i64 st, .int .i64 mi, .slice none 0 0, .slice a5 L5 c5, .bool false]) rfl (by kernel_rfl) (by kernel_rfl) (by kernel_rfl) (fun _ _ _ h => h) (Or.inl ⟨by kernel_rfl, ?_⟩) hS ?_
    · intro w5 hSw
      clear hSw hS
      go_simp
    simp only [Act.put, List.setIfInBounds_toArray, List.set_cons_zero, List.set_cons_succ]
    refine wpAnyH_ready (rs := [10]) (by kernel_rfl) (by simp) ?_
    refine AllReadyH.cons (o := { dst := some 3, op := Go.Op.alloc 33, type := 0, pos := "law.go:124", after := #[], guard := none }) rfl (fun K hK => ?_) AllReadyH.nil
    rw [if_pos (by kernel_rfl)]
    go_simp
    have HR3 := Hid.of (at_new w2 33 z5)
    have HBr := Hid.of (show w.heap.size + 1 < w2.heap.size from Nat.lt_of_lt_of_le HS1.out (Nat.le_trans (Up.refl w1).drew.size Hs2.out))
    have HO3 := Hid.of (ow_up HO2.out ((Up.refl w2).alloc (.cells z5.toArray 33)))
    clear HO2
    refine hK.out _ _ ⟨hS.1.up ((Up.refl _).alloc _), hS.2.1.up ((Up.refl _).alloc _), hS.2.2.alloc _⟩ (fun hS => ?_)
    clear hK K
    refine wpAnyH_ready (rs := [11]) (by kernel_rfl) (by simp) ?_
    refine AllReadyH.cons (o := { dst := none, op := Go.Op.store 33 (Go.Operand.tmp 3) (Go.Operand.tmp 14), type := 0, pos := "law.go:124", after := #[{ on := 10, ground := Go.Ground.data }, { on := 9, ground := Go.Ground.data }, { on := 8, ground := Go.Ground.chain }, { on := 0, ground := Go.Ground.phase }, { on := 1, ground := Go.Ground.phase }, { on := 2, ground := Go.Ground.phase }, { on := 3, ground := Go.Ground.phase }, { on := 4, ground := Go.Ground.phase }, { on := 5, ground := Go.Ground.phase }, { on := 6, ground := Go.Ground.phase }, { on := 7, ground := Go.Ground.phase }, { on := 8, ground := Go.Ground.phase }, { on := 9, ground := Go.Ground.phase }, { on := 10, ground := Go.Ground.phase }], guard := none }) rfl (fun K hK => oper_of_list ?_) AllReadyH.nil
    refine wpList_store_at rfl 33 _ _ rfl (w2.heap.size) HR3.out ([.int .i64 st, .int .i64 mi, .slice none 0 0, .slice a5 L5 c5, .bool false]) rfl rfl rfl (by kernel_rfl) (by kernel_rfl) ?_
    intro w4 hA4 hg4
    have HR4 := Hid.of hA4
    have HU4 := Hid.of (hS.2.2.by hg4 (fun g hg => by have := Option.some.inj hg; have := HBr.out; omega))
    have HA4 := Hid.of (hS.1.by hg4 (fun e => by have := Option.some.inj e; have := HBr.out; omega))
    have HZ4 := Hid.of (hS.2.1.by hg4 (fun e => by have := Option.some.inj e; have := HBr.out; omega))
    have HO4 := Hid.of (HO3.out.kept hg4 (.inr (own_ne HO3.out HR3.out (by decide))))
    clear hA4 hg4 HR3 HO3
    refine hK.out _ _ ⟨HA4.out, HZ4.out, HU4.out⟩ (fun hS => ?_)
    clear hK K hS
    refine wpAnyH_done (by kernel_rfl) ?_ _
    obtain ⟨Br, hBr⟩ : ∃ Br, w2.heap.size = Br := ⟨_, rfl⟩
    rw [hBr] at HR4 HBr ⊢
    clear hBr
    go_wp2
    go_loopw [4] (fun v4 wr => ∃ i : Nat, v4 = .int .i64 (i : Int) ∧ i ≤ ns.length ∧ Hid (∃ a7 c7, At wr Br 33 [.int .i64 st, .int .i64 mi, .slice a7 i c7, .slice a5 L5 c5, .bool false] ∧ FdO wr w.heap.size a7 (F.take i) c7 ∧ wr.ownsRow w.heap.size 5 1 (.slice a5 L5 c5) L5 (cb (pdd bd pad)) ∧ At wr w.heap.size 61 [.int .i64 st, .int .i64 mi, .slice an ns.length cn, .slice av us.length cv, .slice ab nb cb', .int .i64 pad] ∧ At wr (w.heap.size + 1) 33 z5 ∧ Up w wr)) (fun v4 _ => ns.length - (intOf v4).toNat)
    case atStart => exact ⟨0, rfl, Nat.zero_le _, Hid.of ⟨none, 0, HR4.out, World.ownsRow_nil _ _ _ _, (by have h := HO4.out; rw [HL5.out] at h; exact h), HA4.out, HZ4.out, HU4.out⟩⟩
    case round =>
      obtain ⟨i, rfl, hi, hQ⟩ := hrel
      obtain ⟨a7, c7, q1, q2, q3, q4, q5, q6⟩ := hQ.out
      have HR7 := Hid.of q1
      have HF7 := Hid.of q2
      have HO7 := Hid.of q3
      have HA7 := Hid.of q4
      have HZ7 := Hid.of q5
      have HU7 := Hid.of q6
      have h3 := q4.cell (i := 2) rfl
      clear hQ q1 q2 q3 q4 q5 q6
      by_cases hil : i < ns.length
      · have hilz : (i : Int) < (ns.length : Int) := by omega
        have hif : i < F.length := by rw [HFl.out]; exact hil
        obtain ⟨b, off, han, k1⟩ := HN.out.cells i hil
        have HAn := Hid.of han
        clear han
        have HT := Hid.of (List.take_succ_eq_append_getElem hif)
        have HLn := Hid.of (show (F.take i).length = i by rw [List.length_take]; omega)
        have hfg := HFg.out i hil hif
        obtain ⟨f, hf⟩ : ∃ f, F[i] = f := ⟨_, rfl⟩
        rw [hf] at HT hfg
        have HFv := Hid.of (show vat us i = f.v by rw [hfg])
        have HK1 := Hid.of (show w.cell? ⟨b, off + i, none⟩ = some (.string f.n) by rw [k1, hfg])
        clear hf hfg k1
        have HRd := Hid.of (HR7.out.up (Up.refl wr).drew)
        have HFd := Hid.of (ow_up HF7.out (Up.refl wr).drew)
        have HFd' := Hid.of (show wr.drew.ownsRow w.heap.size 73 2 (.slice a7 i c7) i (fdc (F.take i)) by have := HFd.out; rw [HLn.out] at this; exact this)
        have HOd := Hid.of (ow_up HO7.out (Up.refl wr).drew)
        have HAd := Hid.of (HA7.out.up (Up.refl wr).drew)
        have HZd := Hid.of (HZ7.out.up (Up.refl wr).drew)
        go_wp2
        refine wp_region_held_drew (S := fun w2 => At w2 w.heap.size 61 [.int .i64 st, .int .i64 mi, .slice an ns.length cn, .slice av us.length cv, .slice ab nb cb', .int .i64 pad] ∧ At w2 (w.heap.size + 1) 33 z5 ∧ Up w w2) (by kernel_rfl) ⟨HA7.out.up (Up.refl _).drew, HZ7.out.up (Up.refl _).drew, HU7.out.drew⟩ (fun hS => ?_)
        refine wpAnyH_take (i := 0) (oi := { dst := some 22, op := Go.Op.fieldAddr 33 (Go.Operand.tmp 3) 2, type := 0, pos := "law.go:126", after := #[], guard := none }) (v := .pointer (some ⟨Br, 2, none⟩)) rfl (by kernel_rfl) (by kernel_rfl) (by kernel_rfl) (fun _ _ _ h => h) (Or.inl ⟨by kernel_rfl, ?_⟩) hS ?_
        · intro w5 hSw
          clear hSw hS
          go_simp
        simp only [Act.put, List.setIfInBounds_toArray, List.set_cons_zero, List.set_cons_succ]
        refine wpAnyH_take (i := 2) (oi := { dst := some 24, op := Go.Op.fieldAddr 61 (Go.Operand.tmp 1) 2, type := 0, pos := "law.go:126", after := #[], guard := none }) (v := .pointer (some ⟨w.heap.size, 2, none⟩)) rfl (by kernel_rfl) (by kernel_rfl) (by kernel_rfl) (fun _ _ _ h => h) (Or.inl ⟨by kernel_rfl, ?_⟩) hS ?_
        · intro w5 hSw
          clear hSw hS
          go_simp
        simp only [Act.put, List.setIfInBounds_toArray, List.set_cons_zero, List.set_cons_succ]
        refine wpAnyH_take (i := 3) (oi := { dst := some 25, op := Go.Op.load 50 (Go.Operand.tmp 24), type := 50, pos := "law.go:126", after := #[{ on := 2, ground := Go.Ground.data }], guard := none }) (v := .slice (some ⟨b, off, none⟩) ns.length cn) rfl (by kernel_rfl) (by kernel_rfl) (by kernel_rfl) (fun _ _ _ h => h) (Or.inl ⟨by kernel_rfl, ?_⟩) hS ?_
        · intro w5 hSw
          have h0 := hSw.1.cell (i := 2) rfl
          rw [HAn.out] at h0
          clear hSw hS
          go_simp
        simp only [Act.put, List.setIfInBounds_toArray, List.set_cons_zero, List.set_cons_succ]
        refine wpAnyH_take (i := 4) (oi := { dst := some 26, op := Go.Op.move (Go.Operand.tmp 4), type := 3, pos := "law.go:126", after := #[], guard := none }) (v := .int .i64 (i : Int)) rfl (by kernel_rfl) (by kernel_rfl) (by kernel_rfl) (fun _ _ _ h => h) (Or.inl ⟨by kernel_rfl, ?_⟩) hS ?_
        · intro w5 hSw
          clear hSw hS
          go_simp
        simp only [Act.put, List.setIfInBounds_toArray, List.set_cons_zero, List.set_cons_succ]
        refine wpAnyH_take (i := 5) (oi := { dst := some 27, op := Go.Op.indexAddr 50 (Go.Operand.tmp 25) (Go.Operand.tmp 26), type := 0, pos := "law.go:126", after := #[{ on := 3, ground := Go.Ground.data }, { on := 4, ground := Go.Ground.data }], guard := none }) (v := .pointer (some ⟨b, off + i, none⟩)) rfl (by kernel_rfl) (by kernel_rfl) (by kernel_rfl) (fun _ _ _ h => h) (Or.inl ⟨by kernel_rfl, ?_⟩) hS ?_
        · intro w5 hSw
          clear hSw hS
          go_simp
        simp only [Act.put, List.setIfInBounds_toArray, List.set_cons_zero, List.set_cons_succ]
        refine wpAnyH_take (i := 6) (oi := { dst := some 28, op := Go.Op.load 9 (Go.Operand.tmp 27), type := 9, pos := "law.go:126", after := #[{ on := 5, ground := Go.Ground.data }], guard := none }) (v := .string f.n) rfl (by kernel_rfl) (by kernel_rfl) (by kernel_rfl) (fun _ _ _ h => h) (Or.inl ⟨by kernel_rfl, ?_⟩) hS ?_
        · intro w5 hSw
          have h0 := hSw.2.2.cell HK1.out
          clear hSw hS
          go_simp
        simp only [Act.put, List.setIfInBounds_toArray, List.set_cons_zero, List.set_cons_succ]
        refine wpAnyH_take (i := 7) (oi := { dst := some 29, op := Go.Op.fieldAddr 61 (Go.Operand.tmp 1) 3, type := 0, pos := "law.go:126", after := #[], guard := none }) (v := .pointer (some ⟨w.heap.size, 3, none⟩)) rfl (by kernel_rfl) (by kernel_rfl) (by kernel_rfl) (fun _ _ _ h => h) (Or.inl ⟨by kernel_rfl, ?_⟩) hS ?_
        · intro w5 hSw
          clear hSw hS
          go_simp
        simp only [Act.put, List.setIfInBounds_toArray, List.set_cons_zero, List.set_cons_succ]
        refine wpAnyH_take (i := 8) (oi := { dst := some 30, op := Go.Op.load 50 (Go.Operand.tmp 29), type := 50, pos := "law.go:126", after := #[{ on := 7, ground := Go.Ground.data }], guard := none }) (v := .slice av us.length cv) rfl (by kernel_rfl) (by kernel_rfl) (by kernel_rfl) (fun _ _ _ h => h) (Or.inl ⟨by kernel_rfl, ?_⟩) hS ?_
        · intro w5 hSw
          have h0 := hSw.1.cell (i := 3) rfl
          clear hSw hS
          go_simp
        simp only [Act.put, List.setIfInBounds_toArray, List.set_cons_zero, List.set_cons_succ]
        refine wpAnyH_take (i := 9) (oi := { dst := some 31, op := Go.Op.move (Go.Operand.tmp 4), type := 3, pos := "law.go:126", after := #[], guard := none }) (v := .int .i64 (i : Int)) rfl (by kernel_rfl) (by kernel_rfl) (by kernel_rfl) (fun _ _ _ h => h) (Or.inl ⟨by kernel_rfl, ?_⟩) hS ?_
        · intro w5 hSw
          clear hSw hS
          go_simp
        simp only [Act.put, List.setIfInBounds_toArray, List.set_cons_zero, List.set_cons_succ]
        refine wpAnyH_ready (rs := [1, 10]) (by kernel_rfl) (by simp) ?_
        refine AllReadyH.cons (o := { dst := some 23, op := Go.Op.load 25 (Go.Operand.tmp 22), type := 25, pos := "law.go:126", after := #[{ on := 0, ground := Go.Ground.data }], guard := none }) rfl (fun K hK => ?_) (AllReadyH.cons (o := { dst := some 32, op := Go.Op.call { callee := Go.Callee.value (Go.Operand.func 38), args := #[Go.Operand.tmp 30, Go.Operand.tmp 31], argTypes := #[50, 3] }, type := 9, pos := "law.go:126", after := #[{ on := 8, ground := Go.Ground.data }, { on := 9, ground := Go.Ground.data }], guard := none }) rfl (fun K hK => ?_) AllReadyH.nil)
        · rw [if_pos (by kernel_rfl)]
          have k3 := HRd.out.cell (i := 2) rfl
          go_simp
          refine hK.out _ _ hS (fun hS => ?_)
          clear hK K k3
          refine wpAnyH_ready (rs := [10]) (by kernel_rfl) (by simp) ?_
          refine AllReadyH.cons (o := { dst := some 32, op := Go.Op.call { callee := Go.Callee.value (Go.Operand.func 38), args := #[Go.Operand.tmp 30, Go.Operand.tmp 31], argTypes := #[50, 3] }, type := 9, pos := "law.go:126", after := #[{ on := 8, ground := Go.Ground.data }, { on := 9, ground := Go.Ground.data }], guard := none }) rfl (fun K hK => ?_) AllReadyH.nil
          rw [if_pos (by kernel_rfl)]
          go_simp
          refine (value_walk av us cv i wr.drew (HV.out.up HU7.out.drew)).mono ?_
          rintro e w5 ⟨rfl, h9⟩
          obtain rfl := h9.symm
          clear h9
          rw [HFv.out]
          dsimp only
          refine hK.out _ _ hS (fun hS => ?_)
          clear hK K
          refine wpAnyH_take (i := 11) (oi := { dst := some 33, op := Go.Op.build 73 #[(0, Go.Operand.tmp 28), (1, Go.Operand.tmp 32)], type := 73, pos := "law.go:126", after := #[{ on := 6, ground := Go.Ground.data }, { on := 10, ground := Go.Ground.data }], guard := none }) (v := .agg #[.string f.n, .string f.v]) rfl (by kernel_rfl) (by kernel_rfl) (by kernel_rfl) (fun _ _ _ h => h) (Or.inl ⟨by kernel_rfl, ?_⟩) hS ?_
          · intro w5 hSw
            clear hSw hS
            go_simp
          simp only [Act.put, List.setIfInBounds_toArray, List.set_cons_zero, List.set_cons_succ]
          refine wpAnyH_ready (rs := [12]) (by kernel_rfl) (by simp) ?_
          refine AllReadyH.cons (o := { dst := some 34, op := Go.Op.buildSlice 25 1 #[(0, Go.Operand.tmp 33)], type := 25, pos := "law.go:126", after := #[{ on := 11, ground := Go.Ground.data }], guard := none }) rfl (fun K hK => ?_) AllReadyH.nil
          rw [if_pos (by kernel_rfl)]
          go_simp
          refine hK.out _ _ ⟨hS.1.up ((Up.refl _).alloc _), hS.2.1.up ((Up.refl _).alloc _), hS.2.2.alloc _⟩ (fun hS => ?_)
          clear hK K
          refine wpAnyH_ready (rs := [13]) (by kernel_rfl) (by simp) ?_
          refine AllReadyH.cons (o := { dst := some 35, op := Go.Op.call { callee := Go.Callee.builtin Go.Builtin.append, args := #[Go.Operand.tmp 23, Go.Operand.tmp 34], argTypes := #[25, 25] }, type := 25, pos := "law.go:126", after := #[{ on := 1, ground := Go.Ground.data }, { on := 12, ground := Go.Ground.data }, { on := 10, ground := Go.Ground.chain }], guard := none }) rfl (fun K hK => oper_of_list ?_) AllReadyH.nil
          refine wpList_appFd (w := wr.drew) (N := w.heap.size) rfl _ _ rfl a7 c7 (F.take i) f HLn.out rfl rfl HFd.out HU7.out.drew.size (by omega) ?_
          intro ax2 cx2 w7 o7 u7 g7
          have HU8 := Hid.of (u7 w HU7.out.drew (Nat.le_refl _))
          have HR8 := Hid.of (HRd.out.by g7 (own_ne HFd'.out HRd.out (by decide)))
          have HA8 := Hid.of (HAd.out.by g7 (own_ne HFd'.out HAd.out (by decide)))
          have HZ8 := Hid.of (HZd.out.by g7 (own_ne HFd'.out HZd.out (by decide)))
          have HB8 := Hid.of (HOd.out.kept g7 (own_off HOd.out HFd'.out (by decide)))
          have HF8 := Hid.of (show FdO w7 w.heap.size ax2 (F.take (i + 1)) cx2 by rw [HT.out]; exact o7)
          clear o7 u7 g7
          refine hK.out _ _ ⟨HA8.out, HZ8.out, HU8.out⟩ (fun hS => ?_)
          clear hK K
          simp only [Act.put, List.setIfInBounds_toArray, List.set_cons_zero, List.set_cons_succ]
          refine wpAnyH_take (i := 14) (oi := { dst := some 36, op := Go.Op.fieldAddr 33 (Go.Operand.tmp 3) 2, type := 0, pos := "law.go:126", after := #[{ on := 0, ground := Go.Ground.phase }, { on := 1, ground := Go.Ground.phase }, { on := 2, ground := Go.Ground.phase }, { on := 3, ground := Go.Ground.phase }, { on := 4, ground := Go.Ground.phase }, { on := 5, ground := Go.Ground.phase }, { on := 6, ground := Go.Ground.phase }, { on := 7, ground := Go.Ground.phase }, { on := 8, ground := Go.Ground.phase }, { on := 9, ground := Go.Ground.phase }, { on := 10, ground := Go.Ground.phase }, { on := 11, ground := Go.Ground.phase }, { on := 12, ground := Go.Ground.phase }, { on := 13, ground := Go.Ground.phase }], guard := none }) (v := .pointer (some ⟨Br, 2, none⟩)) rfl (by kernel_rfl) (by kernel_rfl) (by kernel_rfl) (fun _ _ _ h => h) (Or.inl ⟨by kernel_rfl, ?_⟩) hS ?_
          · intro w5 hSw
            clear hSw hS
            go_simp
          simp only [Act.put, List.setIfInBounds_toArray, List.set_cons_zero, List.set_cons_succ]
          refine wpAnyH_ready (rs := [15]) (by kernel_rfl) (by simp) ?_
          refine AllReadyH.cons (o := { dst := none, op := Go.Op.store 25 (Go.Operand.tmp 36) (Go.Operand.tmp 35), type := 0, pos := "law.go:126", after := #[{ on := 14, ground := Go.Ground.data }, { on := 13, ground := Go.Ground.data }, { on := 13, ground := Go.Ground.chain }, { on := 0, ground := Go.Ground.phase }, { on := 1, ground := Go.Ground.phase }, { on := 2, ground := Go.Ground.phase }, { on := 3, ground := Go.Ground.phase }, { on := 4, ground := Go.Ground.phase }, { on := 5, ground := Go.Ground.phase }, { on := 6, ground := Go.Ground.phase }, { on := 7, ground := Go.Ground.phase }, { on := 8, ground := Go.Ground.phase }, { on := 9, ground := Go.Ground.phase }, { on := 10, ground := Go.Ground.phase }, { on := 11, ground := Go.Ground.phase }, { on := 12, ground := Go.Ground.phase }, { on := 13, ground := Go.Ground.phase }], guard := none }) rfl (fun K hK => ?_) AllReadyH.nil
          have k3 := HR8.out.cell (i := 2) rfl
          have f3 := HR8.out.thaw 2
          have G8 := grown_set1 w7 Br 2 (.slice ax2 (i + 1) cx2)
          have HR9 := Hid.of (HR8.out.set 2 (.slice ax2 (i + 1) cx2))
          have HU9 := Hid.of (HU8.out.by G8 (fun g hg => by have := Option.some.inj hg; have := HBr.out; omega))
          have HA9 := Hid.of (HA8.out.by G8 (fun e => by have := Option.some.inj e; have := HBr.out; omega))
          have HZ9 := Hid.of (HZ8.out.by G8 (fun e => by have := Option.some.inj e; have := HBr.out; omega))
          have HB9 := Hid.of (HB8.out.kept G8 (.inr (own_ne HB8.out HR8.out (by decide))))
          have HF9 := Hid.of (show FdO (w7.setCell ⟨Br, 2, none⟩ (.slice ax2 (i + 1) cx2)) w.heap.size ax2 (F.take (i + 1)) cx2 from HF8.out.kept G8 (.inr (own_ne HF8.out HR8.out (by decide))))
          clear G8
          rw [if_pos (by kernel_rfl)]
          go_simp
          refine hK.out _ _ ⟨HA9.out, HZ9.out, HU9.out⟩ (fun hS => ?_)
          clear hK K hS
          refine wpAnyH_done (by kernel_rfl) ?_ _
          go_wp2
          go_roundw
          all_goals first
            | exact ⟨i + 1, by go_num, by omega, Hid.of ⟨ax2, cx2, HR9.out, HF9.out, HB9.out, HA9.out, HZ9.out, HU9.out⟩⟩
            | (simp [intOf]; omega)
        · rw [if_pos (by kernel_rfl)]
          go_simp
          refine (value_walk av us cv i wr.drew (HV.out.up HU7.out.drew)).mono ?_
          rintro e w5 ⟨rfl, h9⟩
          obtain rfl := h9.symm
          clear h9
          rw [HFv.out]
          dsimp only
          refine hK.out _ _ hS (fun hS => ?_)
          clear hK K
          refine wpAnyH_take (i := 11) (oi := { dst := some 33, op := Go.Op.build 73 #[(0, Go.Operand.tmp 28), (1, Go.Operand.tmp 32)], type := 73, pos := "law.go:126", after := #[{ on := 6, ground := Go.Ground.data }, { on := 10, ground := Go.Ground.data }], guard := none }) (v := .agg #[.string f.n, .string f.v]) rfl (by kernel_rfl) (by kernel_rfl) (by kernel_rfl) (fun _ _ _ h => h) (Or.inl ⟨by kernel_rfl, ?_⟩) hS ?_
          · intro w5 hSw
            clear hSw hS
            go_simp
          simp only [Act.put, List.setIfInBounds_toArray, List.set_cons_zero, List.set_cons_succ]
          refine wpAnyH_ready (rs := [1, 12]) (by kernel_rfl) (by simp) ?_
          refine AllReadyH.cons (o := { dst := some 23, op := Go.Op.load 25 (Go.Operand.tmp 22), type := 25, pos := "law.go:126", after := #[{ on := 0, ground := Go.Ground.data }], guard := none }) rfl (fun K hK => ?_) (AllReadyH.cons (o := { dst := some 34, op := Go.Op.buildSlice 25 1 #[(0, Go.Operand.tmp 33)], type := 25, pos := "law.go:126", after := #[{ on := 11, ground := Go.Ground.data }], guard := none }) rfl (fun K hK => ?_) AllReadyH.nil)
          · rw [if_pos (by kernel_rfl)]
            have k3 := HRd.out.cell (i := 2) rfl
            go_simp
            refine hK.out _ _ hS (fun hS => ?_)
            clear hK K k3
            refine wpAnyH_ready (rs := [12]) (by kernel_rfl) (by simp) ?_
            refine AllReadyH.cons (o := { dst := some 34, op := Go.Op.buildSlice 25 1 #[(0, Go.Operand.tmp 33)], type := 25, pos := "law.go:126", after := #[{ on := 11, ground := Go.Ground.data }], guard := none }) rfl (fun K hK => ?_) AllReadyH.nil
            rw [if_pos (by kernel_rfl)]
            go_simp
            refine hK.out _ _ ⟨hS.1.up ((Up.refl _).alloc _), hS.2.1.up ((Up.refl _).alloc _), hS.2.2.alloc _⟩ (fun hS => ?_)
            clear hK K
            refine wpAnyH_ready (rs := [13]) (by kernel_rfl) (by simp) ?_
            refine AllReadyH.cons (o := { dst := some 35, op := Go.Op.call { callee := Go.Callee.builtin Go.Builtin.append, args := #[Go.Operand.tmp 23, Go.Operand.tmp 34], argTypes := #[25, 25] }, type := 25, pos := "law.go:126", after := #[{ on := 1, ground := Go.Ground.data }, { on := 12, ground := Go.Ground.data }, { on := 10, ground := Go.Ground.chain }], guard := none }) rfl (fun K hK => oper_of_list ?_) AllReadyH.nil
            refine wpList_appFd (w := wr.drew) (N := w.heap.size) rfl _ _ rfl a7 c7 (F.take i) f HLn.out rfl rfl HFd.out HU7.out.drew.size (by omega) ?_
            intro ax2 cx2 w7 o7 u7 g7
            have HU8 := Hid.of (u7 w HU7.out.drew (Nat.le_refl _))
            have HR8 := Hid.of (HRd.out.by g7 (own_ne HFd'.out HRd.out (by decide)))
            have HA8 := Hid.of (HAd.out.by g7 (own_ne HFd'.out HAd.out (by decide)))
            have HZ8 := Hid.of (HZd.out.by g7 (own_ne HFd'.out HZd.out (by decide)))
            have HB8 := Hid.of (HOd.out.kept g7 (own_off HOd.out HFd'.out (by decide)))
            have HF8 := Hid.of (show FdO w7 w.heap.size ax2 (F.take (i + 1)) cx2 by rw [HT.out]; exact o7)
            clear o7 u7 g7
            refine hK.out _ _ ⟨HA8.out, HZ8.out, HU8.out⟩ (fun hS => ?_)
            clear hK K
            simp only [Act.put, List.setIfInBounds_toArray, List.set_cons_zero, List.set_cons_succ]
            refine wpAnyH_take (i := 14) (oi := { dst := some 36, op := Go.Op.fieldAddr 33 (Go.Operand.tmp 3) 2, type := 0, pos := "law.go:126", after := #[{ on := 0, ground := Go.Ground.phase }, { on := 1, ground := Go.Ground.phase }, { on := 2, ground := Go.Ground.phase }, { on := 3, ground := Go.Ground.phase }, { on := 4, ground := Go.Ground.phase }, { on := 5, ground := Go.Ground.phase }, { on := 6, ground := Go.Ground.phase }, { on := 7, ground := Go.Ground.phase }, { on := 8, ground := Go.Ground.phase }, { on := 9, ground := Go.Ground.phase }, { on := 10, ground := Go.Ground.phase }, { on := 11, ground := Go.Ground.phase }, { on := 12, ground := Go.Ground.phase }, { on := 13, ground := Go.Ground.phase }], guard := none }) (v := .pointer (some ⟨Br, 2, none⟩)) rfl (by kernel_rfl) (by kernel_rfl) (by kernel_rfl) (fun _ _ _ h => h) (Or.inl ⟨by kernel_rfl, ?_⟩) hS ?_
            · intro w5 hSw
              clear hSw hS
              go_simp
            simp only [Act.put, List.setIfInBounds_toArray, List.set_cons_zero, List.set_cons_succ]
            refine wpAnyH_ready (rs := [15]) (by kernel_rfl) (by simp) ?_
            refine AllReadyH.cons (o := { dst := none, op := Go.Op.store 25 (Go.Operand.tmp 36) (Go.Operand.tmp 35), type := 0, pos := "law.go:126", after := #[{ on := 14, ground := Go.Ground.data }, { on := 13, ground := Go.Ground.data }, { on := 13, ground := Go.Ground.chain }, { on := 0, ground := Go.Ground.phase }, { on := 1, ground := Go.Ground.phase }, { on := 2, ground := Go.Ground.phase }, { on := 3, ground := Go.Ground.phase }, { on := 4, ground := Go.Ground.phase }, { on := 5, ground := Go.Ground.phase }, { on := 6, ground := Go.Ground.phase }, { on := 7, ground := Go.Ground.phase }, { on := 8, ground := Go.Ground.phase }, { on := 9, ground := Go.Ground.phase }, { on := 10, ground := Go.Ground.phase }, { on := 11, ground := Go.Ground.phase }, { on := 12, ground := Go.Ground.phase }, { on := 13, ground := Go.Ground.phase }], guard := none }) rfl (fun K hK => ?_) AllReadyH.nil
            have k3 := HR8.out.cell (i := 2) rfl
            have f3 := HR8.out.thaw 2
            have G8 := grown_set1 w7 Br 2 (.slice ax2 (i + 1) cx2)
            have HR9 := Hid.of (HR8.out.set 2 (.slice ax2 (i + 1) cx2))
            have HU9 := Hid.of (HU8.out.by G8 (fun g hg => by have := Option.some.inj hg; have := HBr.out; omega))
            have HA9 := Hid.of (HA8.out.by G8 (fun e => by have := Option.some.inj e; have := HBr.out; omega))
            have HZ9 := Hid.of (HZ8.out.by G8 (fun e => by have := Option.some.inj e; have := HBr.out; omega))
            have HB9 := Hid.of (HB8.out.kept G8 (.inr (own_ne HB8.out HR8.out (by decide))))
            have HF9 := Hid.of (show FdO (w7.setCell ⟨Br, 2, none⟩ (.slice ax2 (i + 1) cx2)) w.heap.size ax2 (F.take (i + 1)) cx2 from HF8.out.kept G8 (.inr (own_ne HF8.out HR8.out (by decide))))
            clear G8
            rw [if_pos (by kernel_rfl)]
            go_simp
            refine hK.out _ _ ⟨HA9.out, HZ9.out, HU9.out⟩ (fun hS => ?_)
            clear hK K hS
            refine wpAnyH_done (by kernel_rfl) ?_ _
            go_wp2
            go_roundw
            all_goals first
              | exact ⟨i + 1, by go_num, by omega, Hid.of ⟨ax2, cx2, HR9.out, HF9.out, HB9.out, HA9.out, HZ9.out, HU9.out⟩⟩
              | (simp [intOf]; omega)
          · rw [if_pos (by kernel_rfl)]
            go_simp
            refine hK.out _ _ ⟨hS.1.up ((Up.refl _).alloc _), hS.2.1.up ((Up.refl _).alloc _), hS.2.2.alloc _⟩ (fun hS => ?_)
            clear hK K
            refine wpAnyH_ready (rs := [1]) (by kernel_rfl) (by simp) ?_
            refine AllReadyH.cons (o := { dst := some 23, op := Go.Op.load 25 (Go.Operand.tmp 22), type := 25, pos := "law.go:126", after := #[{ on := 0, ground := Go.Ground.data }], guard := none }) rfl (fun K hK => ?_) AllReadyH.nil
            rw [if_pos (by kernel_rfl)]
            have k3 := ((HR7.out.up ((Up.refl wr).alloc (.cells #[.string f.n, .string f.v] 73))).up (Up.refl _).drew).cell (i := 2) rfl
            go_simp
            refine hK.out _ _ hS (fun hS => ?_)
            clear hK K k3
            refine wpAnyH_ready (rs := [13]) (by kernel_rfl) (by simp) ?_
            refine AllReadyH.cons (o := { dst := some 35, op := Go.Op.call { callee := Go.Callee.builtin Go.Builtin.append, args := #[Go.Operand.tmp 23, Go.Operand.tmp 34], argTypes := #[25, 25] }, type := 25, pos := "law.go:126", after := #[{ on := 1, ground := Go.Ground.data }, { on := 12, ground := Go.Ground.data }, { on := 10, ground := Go.Ground.chain }], guard := none }) rfl (fun K hK => oper_of_list ?_) AllReadyH.nil
            refine wpList_appFd (w := wr.drew) (N := w.heap.size) rfl _ _ rfl a7 c7 (F.take i) f HLn.out rfl rfl HFd.out HU7.out.drew.size (by omega) ?_
            intro ax2 cx2 w7 o7 u7 g7
            have HU8 := Hid.of (u7 w HU7.out.drew (Nat.le_refl _))
            have HR8 := Hid.of (HRd.out.by g7 (own_ne HFd'.out HRd.out (by decide)))
            have HA8 := Hid.of (HAd.out.by g7 (own_ne HFd'.out HAd.out (by decide)))
            have HZ8 := Hid.of (HZd.out.by g7 (own_ne HFd'.out HZd.out (by decide)))
            have HB8 := Hid.of (HOd.out.kept g7 (own_off HOd.out HFd'.out (by decide)))
            have HF8 := Hid.of (show FdO w7 w.heap.size ax2 (F.take (i + 1)) cx2 by rw [HT.out]; exact o7)
            clear o7 u7 g7
            refine hK.out _ _ ⟨HA8.out, HZ8.out, HU8.out⟩ (fun hS => ?_)
            clear hK K
            simp only [Act.put, List.setIfInBounds_toArray, List.set_cons_zero, List.set_cons_succ]
            refine wpAnyH_take (i := 14) (oi := { dst := some 36, op := Go.Op.fieldAddr 33 (Go.Operand.tmp 3) 2, type := 0, pos := "law.go:126", after := #[{ on := 0, ground := Go.Ground.phase }, { on := 1, ground := Go.Ground.phase }, { on := 2, ground := Go.Ground.phase }, { on := 3, ground := Go.Ground.phase }, { on := 4, ground := Go.Ground.phase }, { on := 5, ground := Go.Ground.phase }, { on := 6, ground := Go.Ground.phase }, { on := 7, ground := Go.Ground.phase }, { on := 8, ground := Go.Ground.phase }, { on := 9, ground := Go.Ground.phase }, { on := 10, ground := Go.Ground.phase }, { on := 11, ground := Go.Ground.phase }, { on := 12, ground := Go.Ground.phase }, { on := 13, ground := Go.Ground.phase }], guard := none }) (v := .pointer (some ⟨Br, 2, none⟩)) rfl (by kernel_rfl) (by kernel_rfl) (by kernel_rfl) (fun _ _ _ h => h) (Or.inl ⟨by kernel_rfl, ?_⟩) hS ?_
            · intro w5 hSw
              clear hSw hS
              go_simp
            simp only [Act.put, List.setIfInBounds_toArray, List.set_cons_zero, List.set_cons_succ]
            refine wpAnyH_ready (rs := [15]) (by kernel_rfl) (by simp) ?_
            refine AllReadyH.cons (o := { dst := none, op := Go.Op.store 25 (Go.Operand.tmp 36) (Go.Operand.tmp 35), type := 0, pos := "law.go:126", after := #[{ on := 14, ground := Go.Ground.data }, { on := 13, ground := Go.Ground.data }, { on := 13, ground := Go.Ground.chain }, { on := 0, ground := Go.Ground.phase }, { on := 1, ground := Go.Ground.phase }, { on := 2, ground := Go.Ground.phase }, { on := 3, ground := Go.Ground.phase }, { on := 4, ground := Go.Ground.phase }, { on := 5, ground := Go.Ground.phase }, { on := 6, ground := Go.Ground.phase }, { on := 7, ground := Go.Ground.phase }, { on := 8, ground := Go.Ground.phase }, { on := 9, ground := Go.Ground.phase }, { on := 10, ground := Go.Ground.phase }, { on := 11, ground := Go.Ground.phase }, { on := 12, ground := Go.Ground.phase }, { on := 13, ground := Go.Ground.phase }], guard := none }) rfl (fun K hK => ?_) AllReadyH.nil
            have k3 := HR8.out.cell (i := 2) rfl
            have f3 := HR8.out.thaw 2
            have G8 := grown_set1 w7 Br 2 (.slice ax2 (i + 1) cx2)
            have HR9 := Hid.of (HR8.out.set 2 (.slice ax2 (i + 1) cx2))
            have HU9 := Hid.of (HU8.out.by G8 (fun g hg => by have := Option.some.inj hg; have := HBr.out; omega))
            have HA9 := Hid.of (HA8.out.by G8 (fun e => by have := Option.some.inj e; have := HBr.out; omega))
            have HZ9 := Hid.of (HZ8.out.by G8 (fun e => by have := Option.some.inj e; have := HBr.out; omega))
            have HB9 := Hid.of (HB8.out.kept G8 (.inr (own_ne HB8.out HR8.out (by decide))))
            have HF9 := Hid.of (show FdO (w7.setCell ⟨Br, 2, none⟩ (.slice ax2 (i + 1) cx2)) w.heap.size ax2 (F.take (i + 1)) cx2 from HF8.out.kept G8 (.inr (own_ne HF8.out HR8.out (by decide))))
            clear G8
            rw [if_pos (by kernel_rfl)]
            go_simp
            refine hK.out _ _ ⟨HA9.out, HZ9.out, HU9.out⟩ (fun hS => ?_)
            clear hK K hS
            refine wpAnyH_done (by kernel_rfl) ?_ _
            go_wp2
            go_roundw
            all_goals first
              | exact ⟨i + 1, by go_num, by omega, Hid.of ⟨ax2, cx2, HR9.out, HF9.out, HB9.out, HA9.out, HZ9.out, HU9.out⟩⟩
              | (simp [intOf]; omega)
      · have hilz : ¬ (i : Int) < (ns.length : Int) := by omega
        have hin : i = ns.length := by omega
        subst hin
        have HF8 := Hid.of (show FdO wr w.heap.size a7 F c7 by
          have h1 := HF7.out
          rw [List.take_of_length_le (by rw [HFl.out]; exact Nat.le_refl _)] at h1
          exact h1)
        go_wp2_with (with_reducible show wpList _ _ _ ({ dst := _, op := Op.load 33 _, type := _, pos := _, after := _, guard := _ } :: _) _ _; refine Shut.out ?_)
        show wpList _ _ _ _ _ _
        refine wpList_load_mid rfl _ _ rfl Br 0 rfl [.int .i64 st, .int .i64 mi, .slice a7 ns.length c7, .slice a5 L5 c5, .bool false] _ HR7.out.range Tryz.underlying33 rfl (by kernel_rfl) ?_
        simp only [Act.put, List.setIfInBounds_toArray, List.set_cons_zero, List.set_cons_succ]
        refine wpList_store_at rfl 33 _ _ rfl (w.heap.size + 1) HZ7.out [.int .i64 st, .int .i64 mi, .slice a7 ns.length c7, .slice a5 L5 c5, .bool false] rfl rfl rfl (by kernel_rfl) (by kernel_rfl) ?_
        intro w8 hA8 hg8
        have HA8 := Hid.of hA8
        have HU8 := Hid.of (HU7.out.by hg8 (fun g hg => by have := Option.some.inj hg; omega))
        have HF9 := Hid.of (show FdO w8 w.heap.size a7 F c7 from HF8.out.kept hg8 (.inr (own_ne HF8.out HZ7.out (by decide))))
        have HO9 := Hid.of (HO7.out.kept hg8 (.inr (own_ne HO7.out HZ7.out (by decide))))
        clear hA8 hg8
        simp only [Act.put]
        repeat go_step
        refine bodyPost_ret (results_agg1 Tryz.results25 _ _ (w.heap.size + 1) [.int .i64 st, .int .i64 mi, .slice a7 ns.length c7, .slice a5 L5 c5, .bool false] rfl HA8.out.range Tryz.underlying33 rfl (by kernel_rfl)) rfl ?_
        exact ⟨⟨a7, c7, _, rfl, Hid.of ⟨HF9.out, by unfold Ow; rw [HL5.out]; exact HO9.out⟩⟩, HU8.out⟩
  · rw [if_pos (by kernel_rfl)]
    go_simp
    have HR1 := Hid.of (show At _ w1.heap.size 33 z5 from at_new w1.drew 33 z5)
    have HUa := Hid.of ((Up.refl w1.drew).alloc (.cells z5.toArray 33))
    have HBr := Hid.of (show w.heap.size + 1 < w1.heap.size from HS1.out)
    refine hK.out _ _ ⟨hS.1.up HUa.out, hS.2.1.up HUa.out, hS.2.2.trans HUa.out⟩ (fun hS => ?_)
    clear hK K
    refine wpAnyH_ready (rs := [8]) (by kernel_rfl) (by simp) ?_
    refine AllReadyH.cons (o := { dst := some 13, op := Go.Op.call { callee := Go.Callee.value (Go.Operand.func 10), args := #[Go.Operand.tmp 10, Go.Operand.tmp 12], argTypes := #[22, 3] }, type := 22, pos := "law.go:124", after := #[{ on := 5, ground := Go.Ground.data }, { on := 7, ground := Go.Ground.data }], guard := none }) rfl (fun K hK => ?_) AllReadyH.nil
    rw [if_pos (by kernel_rfl)]
    go_simp
    refine (padded_walk (.slice ab nb cb') bd pad (by omega) _ (HB.out.up (HU0.out.drew.trans HUa.out))).mono ?_
    rintro e w2 ⟨v5, rfl, hO, h9⟩
    obtain ⟨a5, c5, rfl⟩ := row_len hO
    have HO2 := Hid.of (show Ow w2 w.heap.size _ (pdd bd pad) from ow_base hO (HU0.out.drew.trans HUa.out).size)
    have HU2 := Hid.of ((HU0.out.drew.trans HUa.out).trans h9)
    have HA2 := Hid.of (((HA0.out.up (Up.refl _).drew).up HUa.out).up h9)
    have HZ2 := Hid.of (((HZ0.out.up (Up.refl _).drew).up HUa.out).up h9)
    have HR3 := Hid.of (HR1.out.up h9)
    clear h9 hO hS
    obtain ⟨L5, hL5⟩ : ∃ L5, (pdd bd pad).length = L5 := ⟨_, rfl⟩
    have HL5 := Hid.of hL5
    rw [hL5] at HO2 ⊢
    clear hL5
    dsimp only
    refine hK.out _ _ ⟨HA2.out, HZ2.out, HU2.out⟩ (fun hS => ?_)
    clear hK K
    have HO3 := Hid.of HO2.out
    clear HO2
    refine wpAnyH_take (i := 9) (oi := { dst := some 14, op := Go.Op.build 33 #[(0, Go.Operand.tmp 6), (1, Go.Operand.tmp 8), (3, Go.Operand.tmp 13)], type := 33, pos := "law.go:124", after := #[{ on := 1, ground := Go.Ground.data }, { on := 3, ground := Go.Ground.data }, { on := 8, ground := Go.Ground.data }], guard := none }) (v := .agg #[.int .i64 st, .int .i64 mi, .slice none 0 0, .slice a5 L5 c5, .bool false]) rfl (by kernel_rfl) (by kernel_rfl) (by kernel_rfl) (fun _ _ _ h => h) (Or.inl ⟨by kernel_rfl, ?_⟩) hS ?_
    · intro w5 hSw
      clear hSw hS
      go_simp
    simp only [Act.put, List.setIfInBounds_toArray, List.set_cons_zero, List.set_cons_succ]
    refine wpAnyH_ready (rs := [11]) (by kernel_rfl) (by simp) ?_
    refine AllReadyH.cons (o := { dst := none, op := Go.Op.store 33 (Go.Operand.tmp 3) (Go.Operand.tmp 14), type := 0, pos := "law.go:124", after := #[{ on := 10, ground := Go.Ground.data }, { on := 9, ground := Go.Ground.data }, { on := 8, ground := Go.Ground.chain }, { on := 0, ground := Go.Ground.phase }, { on := 1, ground := Go.Ground.phase }, { on := 2, ground := Go.Ground.phase }, { on := 3, ground := Go.Ground.phase }, { on := 4, ground := Go.Ground.phase }, { on := 5, ground := Go.Ground.phase }, { on := 6, ground := Go.Ground.phase }, { on := 7, ground := Go.Ground.phase }, { on := 8, ground := Go.Ground.phase }, { on := 9, ground := Go.Ground.phase }, { on := 10, ground := Go.Ground.phase }], guard := none }) rfl (fun K hK => oper_of_list ?_) AllReadyH.nil
    refine wpList_store_at rfl 33 _ _ rfl (w1.heap.size) HR3.out ([.int .i64 st, .int .i64 mi, .slice none 0 0, .slice a5 L5 c5, .bool false]) rfl rfl rfl (by kernel_rfl) (by kernel_rfl) ?_
    intro w4 hA4 hg4
    have HR4 := Hid.of hA4
    have HU4 := Hid.of (hS.2.2.by hg4 (fun g hg => by have := Option.some.inj hg; have := HBr.out; omega))
    have HA4 := Hid.of (hS.1.by hg4 (fun e => by have := Option.some.inj e; have := HBr.out; omega))
    have HZ4 := Hid.of (hS.2.1.by hg4 (fun e => by have := Option.some.inj e; have := HBr.out; omega))
    have HO4 := Hid.of (HO3.out.kept hg4 (.inr (own_ne HO3.out HR3.out (by decide))))
    clear hA4 hg4 HR3 HO3
    refine hK.out _ _ ⟨HA4.out, HZ4.out, HU4.out⟩ (fun hS => ?_)
    clear hK K hS
    refine wpAnyH_done (by kernel_rfl) ?_ _
    obtain ⟨Br, hBr⟩ : ∃ Br, w1.heap.size = Br := ⟨_, rfl⟩
    rw [hBr] at HR4 HBr ⊢
    clear hBr
    go_wp2
    go_loopw [4] (fun v4 wr => ∃ i : Nat, v4 = .int .i64 (i : Int) ∧ i ≤ ns.length ∧ Hid (∃ a7 c7, At wr Br 33 [.int .i64 st, .int .i64 mi, .slice a7 i c7, .slice a5 L5 c5, .bool false] ∧ FdO wr w.heap.size a7 (F.take i) c7 ∧ wr.ownsRow w.heap.size 5 1 (.slice a5 L5 c5) L5 (cb (pdd bd pad)) ∧ At wr w.heap.size 61 [.int .i64 st, .int .i64 mi, .slice an ns.length cn, .slice av us.length cv, .slice ab nb cb', .int .i64 pad] ∧ At wr (w.heap.size + 1) 33 z5 ∧ Up w wr)) (fun v4 _ => ns.length - (intOf v4).toNat)
    case atStart => exact ⟨0, rfl, Nat.zero_le _, Hid.of ⟨none, 0, HR4.out, World.ownsRow_nil _ _ _ _, (by have h := HO4.out; rw [HL5.out] at h; exact h), HA4.out, HZ4.out, HU4.out⟩⟩
    case round =>
      obtain ⟨i, rfl, hi, hQ⟩ := hrel
      obtain ⟨a7, c7, q1, q2, q3, q4, q5, q6⟩ := hQ.out
      have HR7 := Hid.of q1
      have HF7 := Hid.of q2
      have HO7 := Hid.of q3
      have HA7 := Hid.of q4
      have HZ7 := Hid.of q5
      have HU7 := Hid.of q6
      have h3 := q4.cell (i := 2) rfl
      clear hQ q1 q2 q3 q4 q5 q6
      by_cases hil : i < ns.length
      · have hilz : (i : Int) < (ns.length : Int) := by omega
        have hif : i < F.length := by rw [HFl.out]; exact hil
        obtain ⟨b, off, han, k1⟩ := HN.out.cells i hil
        have HAn := Hid.of han
        clear han
        have HT := Hid.of (List.take_succ_eq_append_getElem hif)
        have HLn := Hid.of (show (F.take i).length = i by rw [List.length_take]; omega)
        have hfg := HFg.out i hil hif
        obtain ⟨f, hf⟩ : ∃ f, F[i] = f := ⟨_, rfl⟩
        rw [hf] at HT hfg
        have HFv := Hid.of (show vat us i = f.v by rw [hfg])
        have HK1 := Hid.of (show w.cell? ⟨b, off + i, none⟩ = some (.string f.n) by rw [k1, hfg])
        clear hf hfg k1
        have HRd := Hid.of (HR7.out.up (Up.refl wr).drew)
        have HFd := Hid.of (ow_up HF7.out (Up.refl wr).drew)
        have HFd' := Hid.of (show wr.drew.ownsRow w.heap.size 73 2 (.slice a7 i c7) i (fdc (F.take i)) by have := HFd.out; rw [HLn.out] at this; exact this)
        have HOd := Hid.of (ow_up HO7.out (Up.refl wr).drew)
        have HAd := Hid.of (HA7.out.up (Up.refl wr).drew)
        have HZd := Hid.of (HZ7.out.up (Up.refl wr).drew)
        go_wp2
        refine wp_region_held_drew (S := fun w2 => At w2 w.heap.size 61 [.int .i64 st, .int .i64 mi, .slice an ns.length cn, .slice av us.length cv, .slice ab nb cb', .int .i64 pad] ∧ At w2 (w.heap.size + 1) 33 z5 ∧ Up w w2) (by kernel_rfl) ⟨HA7.out.up (Up.refl _).drew, HZ7.out.up (Up.refl _).drew, HU7.out.drew⟩ (fun hS => ?_)
        refine wpAnyH_take (i := 0) (oi := { dst := some 22, op := Go.Op.fieldAddr 33 (Go.Operand.tmp 3) 2, type := 0, pos := "law.go:126", after := #[], guard := none }) (v := .pointer (some ⟨Br, 2, none⟩)) rfl (by kernel_rfl) (by kernel_rfl) (by kernel_rfl) (fun _ _ _ h => h) (Or.inl ⟨by kernel_rfl, ?_⟩) hS ?_
        · intro w5 hSw
          clear hSw hS
          go_simp
        simp only [Act.put, List.setIfInBounds_toArray, List.set_cons_zero, List.set_cons_succ]
        refine wpAnyH_take (i := 2) (oi := { dst := some 24, op := Go.Op.fieldAddr 61 (Go.Operand.tmp 1) 2, type := 0, pos := "law.go:126", after := #[], guard := none }) (v := .pointer (some ⟨w.heap.size, 2, none⟩)) rfl (by kernel_rfl) (by kernel_rfl) (by kernel_rfl) (fun _ _ _ h => h) (Or.inl ⟨by kernel_rfl, ?_⟩) hS ?_
        · intro w5 hSw
          clear hSw hS
          go_simp
        simp only [Act.put, List.setIfInBounds_toArray, List.set_cons_zero, List.set_cons_succ]
        refine wpAnyH_take (i := 3) (oi := { dst := some 25, op := Go.Op.load 50 (Go.Operand.tmp 24), type := 50, pos := "law.go:126", after := #[{ on := 2, ground := Go.Ground.data }], guard := none }) (v := .slice (some ⟨b, off, none⟩) ns.length cn) rfl (by kernel_rfl) (by kernel_rfl) (by kernel_rfl) (fun _ _ _ h => h) (Or.inl ⟨by kernel_rfl, ?_⟩) hS ?_
        · intro w5 hSw
          have h0 := hSw.1.cell (i := 2) rfl
          rw [HAn.out] at h0
          clear hSw hS
          go_simp
        simp only [Act.put, List.setIfInBounds_toArray, List.set_cons_zero, List.set_cons_succ]
        refine wpAnyH_take (i := 4) (oi := { dst := some 26, op := Go.Op.move (Go.Operand.tmp 4), type := 3, pos := "law.go:126", after := #[], guard := none }) (v := .int .i64 (i : Int)) rfl (by kernel_rfl) (by kernel_rfl) (by kernel_rfl) (fun _ _ _ h => h) (Or.inl ⟨by kernel_rfl, ?_⟩) hS ?_
        · intro w5 hSw
          clear hSw hS
          go_simp
        simp only [Act.put, List.setIfInBounds_toArray, List.set_cons_zero, List.set_cons_succ]
        refine wpAnyH_take (i := 5) (oi := { dst := some 27, op := Go.Op.indexAddr 50 (Go.Operand.tmp 25) (Go.Operand.tmp 26), type := 0, pos := "law.go:126", after := #[{ on := 3, ground := Go.Ground.data }, { on := 4, ground := Go.Ground.data }], guard := none }) (v := .pointer (some ⟨b, off + i, none⟩)) rfl (by kernel_rfl) (by kernel_rfl) (by kernel_rfl) (fun _ _ _ h => h) (Or.inl ⟨by kernel_rfl, ?_⟩) hS ?_
        · intro w5 hSw
          clear hSw hS
          go_simp
        simp only [Act.put, List.setIfInBounds_toArray, List.set_cons_zero, List.set_cons_succ]
        refine wpAnyH_take (i := 6) (oi := { dst := some 28, op := Go.Op.load 9 (Go.Operand.tmp 27), type := 9, pos := "law.go:126", after := #[{ on := 5, ground := Go.Ground.data }], guard := none }) (v := .string f.n) rfl (by kernel_rfl) (by kernel_rfl) (by kernel_rfl) (fun _ _ _ h => h) (Or.inl ⟨by kernel_rfl, ?_⟩) hS ?_
        · intro w5 hSw
          have h0 := hSw.2.2.cell HK1.out
          clear hSw hS
          go_simp
        simp only [Act.put, List.setIfInBounds_toArray, List.set_cons_zero, List.set_cons_succ]
        refine wpAnyH_take (i := 7) (oi := { dst := some 29, op := Go.Op.fieldAddr 61 (Go.Operand.tmp 1) 3, type := 0, pos := "law.go:126", after := #[], guard := none }) (v := .pointer (some ⟨w.heap.size, 3, none⟩)) rfl (by kernel_rfl) (by kernel_rfl) (by kernel_rfl) (fun _ _ _ h => h) (Or.inl ⟨by kernel_rfl, ?_⟩) hS ?_
        · intro w5 hSw
          clear hSw hS
          go_simp
        simp only [Act.put, List.setIfInBounds_toArray, List.set_cons_zero, List.set_cons_succ]
        refine wpAnyH_take (i := 8) (oi := { dst := some 30, op := Go.Op.load 50 (Go.Operand.tmp 29), type := 50, pos := "law.go:126", after := #[{ on := 7, ground := Go.Ground.data }], guard := none }) (v := .slice av us.length cv) rfl (by kernel_rfl) (by kernel_rfl) (by kernel_rfl) (fun _ _ _ h => h) (Or.inl ⟨by kernel_rfl, ?_⟩) hS ?_
        · intro w5 hSw
          have h0 := hSw.1.cell (i := 3) rfl
          clear hSw hS
          go_simp
        simp only [Act.put, List.setIfInBounds_toArray, List.set_cons_zero, List.set_cons_succ]
        refine wpAnyH_take (i := 9) (oi := { dst := some 31, op := Go.Op.move (Go.Operand.tmp 4), type := 3, pos := "law.go:126", after := #[], guard := none }) (v := .int .i64 (i : Int)) rfl (by kernel_rfl) (by kernel_rfl) (by kernel_rfl) (fun _ _ _ h => h) (Or.inl ⟨by kernel_rfl, ?_⟩) hS ?_
        · intro w5 hSw
          clear hSw hS
          go_simp
        simp only [Act.put, List.setIfInBounds_toArray, List.set_cons_zero, List.set_cons_succ]
        refine wpAnyH_ready (rs := [1, 10]) (by kernel_rfl) (by simp) ?_
        refine AllReadyH.cons (o := { dst := some 23, op := Go.Op.load 25 (Go.Operand.tmp 22), type := 25, pos := "law.go:126", after := #[{ on := 0, ground := Go.Ground.data }], guard := none }) rfl (fun K hK => ?_) (AllReadyH.cons (o := { dst := some 32, op := Go.Op.call { callee := Go.Callee.value (Go.Operand.func 38), args := #[Go.Operand.tmp 30, Go.Operand.tmp 31], argTypes := #[50, 3] }, type := 9, pos := "law.go:126", after := #[{ on := 8, ground := Go.Ground.data }, { on := 9, ground := Go.Ground.data }], guard := none }) rfl (fun K hK => ?_) AllReadyH.nil)
        · rw [if_pos (by kernel_rfl)]
          have k3 := HRd.out.cell (i := 2) rfl
          go_simp
          refine hK.out _ _ hS (fun hS => ?_)
          clear hK K k3
          refine wpAnyH_ready (rs := [10]) (by kernel_rfl) (by simp) ?_
          refine AllReadyH.cons (o := { dst := some 32, op := Go.Op.call { callee := Go.Callee.value (Go.Operand.func 38), args := #[Go.Operand.tmp 30, Go.Operand.tmp 31], argTypes := #[50, 3] }, type := 9, pos := "law.go:126", after := #[{ on := 8, ground := Go.Ground.data }, { on := 9, ground := Go.Ground.data }], guard := none }) rfl (fun K hK => ?_) AllReadyH.nil
          rw [if_pos (by kernel_rfl)]
          go_simp
          refine (value_walk av us cv i wr.drew (HV.out.up HU7.out.drew)).mono ?_
          rintro e w5 ⟨rfl, h9⟩
          obtain rfl := h9.symm
          clear h9
          rw [HFv.out]
          dsimp only
          refine hK.out _ _ hS (fun hS => ?_)
          clear hK K
          refine wpAnyH_take (i := 11) (oi := { dst := some 33, op := Go.Op.build 73 #[(0, Go.Operand.tmp 28), (1, Go.Operand.tmp 32)], type := 73, pos := "law.go:126", after := #[{ on := 6, ground := Go.Ground.data }, { on := 10, ground := Go.Ground.data }], guard := none }) (v := .agg #[.string f.n, .string f.v]) rfl (by kernel_rfl) (by kernel_rfl) (by kernel_rfl) (fun _ _ _ h => h) (Or.inl ⟨by kernel_rfl, ?_⟩) hS ?_
          · intro w5 hSw
            clear hSw hS
            go_simp
          simp only [Act.put, List.setIfInBounds_toArray, List.set_cons_zero, List.set_cons_succ]
          refine wpAnyH_ready (rs := [12]) (by kernel_rfl) (by simp) ?_
          refine AllReadyH.cons (o := { dst := some 34, op := Go.Op.buildSlice 25 1 #[(0, Go.Operand.tmp 33)], type := 25, pos := "law.go:126", after := #[{ on := 11, ground := Go.Ground.data }], guard := none }) rfl (fun K hK => ?_) AllReadyH.nil
          rw [if_pos (by kernel_rfl)]
          go_simp
          refine hK.out _ _ ⟨hS.1.up ((Up.refl _).alloc _), hS.2.1.up ((Up.refl _).alloc _), hS.2.2.alloc _⟩ (fun hS => ?_)
          clear hK K
          refine wpAnyH_ready (rs := [13]) (by kernel_rfl) (by simp) ?_
          refine AllReadyH.cons (o := { dst := some 35, op := Go.Op.call { callee := Go.Callee.builtin Go.Builtin.append, args := #[Go.Operand.tmp 23, Go.Operand.tmp 34], argTypes := #[25, 25] }, type := 25, pos := "law.go:126", after := #[{ on := 1, ground := Go.Ground.data }, { on := 12, ground := Go.Ground.data }, { on := 10, ground := Go.Ground.chain }], guard := none }) rfl (fun K hK => oper_of_list ?_) AllReadyH.nil
          refine wpList_appFd (w := wr.drew) (N := w.heap.size) rfl _ _ rfl a7 c7 (F.take i) f HLn.out rfl rfl HFd.out HU7.out.drew.size (by omega) ?_
          intro ax2 cx2 w7 o7 u7 g7
          have HU8 := Hid.of (u7 w HU7.out.drew (Nat.le_refl _))
          have HR8 := Hid.of (HRd.out.by g7 (own_ne HFd'.out HRd.out (by decide)))
          have HA8 := Hid.of (HAd.out.by g7 (own_ne HFd'.out HAd.out (by decide)))
          have HZ8 := Hid.of (HZd.out.by g7 (own_ne HFd'.out HZd.out (by decide)))
          have HB8 := Hid.of (HOd.out.kept g7 (own_off HOd.out HFd'.out (by decide)))
          have HF8 := Hid.of (show FdO w7 w.heap.size ax2 (F.take (i + 1)) cx2 by rw [HT.out]; exact o7)
          clear o7 u7 g7
          refine hK.out _ _ ⟨HA8.out, HZ8.out, HU8.out⟩ (fun hS => ?_)
          clear hK K
          simp only [Act.put, List.setIfInBounds_toArray, List.set_cons_zero, List.set_cons_succ]
          refine wpAnyH_take (i := 14) (oi := { dst := some 36, op := Go.Op.fieldAddr 33 (Go.Operand.tmp 3) 2, type := 0, pos := "law.go:126", after := #[{ on := 0, ground := Go.Ground.phase }, { on := 1, ground := Go.Ground.phase }, { on := 2, ground := Go.Ground.phase }, { on := 3, ground := Go.Ground.phase }, { on := 4, ground := Go.Ground.phase }, { on := 5, ground := Go.Ground.phase }, { on := 6, ground := Go.Ground.phase }, { on := 7, ground := Go.Ground.phase }, { on := 8, ground := Go.Ground.phase }, { on := 9, ground := Go.Ground.phase }, { on := 10, ground := Go.Ground.phase }, { on := 11, ground := Go.Ground.phase }, { on := 12, ground := Go.Ground.phase }, { on := 13, ground := Go.Ground.phase }], guard := none }) (v := .pointer (some ⟨Br, 2, none⟩)) rfl (by kernel_rfl) (by kernel_rfl) (by kernel_rfl) (fun _ _ _ h => h) (Or.inl ⟨by kernel_rfl, ?_⟩) hS ?_
          · intro w5 hSw
            clear hSw hS
            go_simp
          simp only [Act.put, List.setIfInBounds_toArray, List.set_cons_zero, List.set_cons_succ]
          refine wpAnyH_ready (rs := [15]) (by kernel_rfl) (by simp) ?_
          refine AllReadyH.cons (o := { dst := none, op := Go.Op.store 25 (Go.Operand.tmp 36) (Go.Operand.tmp 35), type := 0, pos := "law.go:126", after := #[{ on := 14, ground := Go.Ground.data }, { on := 13, ground := Go.Ground.data }, { on := 13, ground := Go.Ground.chain }, { on := 0, ground := Go.Ground.phase }, { on := 1, ground := Go.Ground.phase }, { on := 2, ground := Go.Ground.phase }, { on := 3, ground := Go.Ground.phase }, { on := 4, ground := Go.Ground.phase }, { on := 5, ground := Go.Ground.phase }, { on := 6, ground := Go.Ground.phase }, { on := 7, ground := Go.Ground.phase }, { on := 8, ground := Go.Ground.phase }, { on := 9, ground := Go.Ground.phase }, { on := 10, ground := Go.Ground.phase }, { on := 11, ground := Go.Ground.phase }, { on := 12, ground := Go.Ground.phase }, { on := 13, ground := Go.Ground.phase }], guard := none }) rfl (fun K hK => ?_) AllReadyH.nil
          have k3 := HR8.out.cell (i := 2) rfl
          have f3 := HR8.out.thaw 2
          have G8 := grown_set1 w7 Br 2 (.slice ax2 (i + 1) cx2)
          have HR9 := Hid.of (HR8.out.set 2 (.slice ax2 (i + 1) cx2))
          have HU9 := Hid.of (HU8.out.by G8 (fun g hg => by have := Option.some.inj hg; have := HBr.out; omega))
          have HA9 := Hid.of (HA8.out.by G8 (fun e => by have := Option.some.inj e; have := HBr.out; omega))
          have HZ9 := Hid.of (HZ8.out.by G8 (fun e => by have := Option.some.inj e; have := HBr.out; omega))
          have HB9 := Hid.of (HB8.out.kept G8 (.inr (own_ne HB8.out HR8.out (by decide))))
          have HF9 := Hid.of (show FdO (w7.setCell ⟨Br, 2, none⟩ (.slice ax2 (i + 1) cx2)) w.heap.size ax2 (F.take (i + 1)) cx2 from HF8.out.kept G8 (.inr (own_ne HF8.out HR8.out (by decide))))
          clear G8
          rw [if_pos (by kernel_rfl)]
          go_simp
          refine hK.out _ _ ⟨HA9.out, HZ9.out, HU9.out⟩ (fun hS => ?_)
          clear hK K hS
          refine wpAnyH_done (by kernel_rfl) ?_ _
          go_wp2
          go_roundw
          all_goals first
            | exact ⟨i + 1, by go_num, by omega, Hid.of ⟨ax2, cx2, HR9.out, HF9.out, HB9.out, HA9.out, HZ9.out, HU9.out⟩⟩
            | (simp [intOf]; omega)
        · rw [if_pos (by kernel_rfl)]
          go_simp
          refine (value_walk av us cv i wr.drew (HV.out.up HU7.out.drew)).mono ?_
          rintro e w5 ⟨rfl, h9⟩
          obtain rfl := h9.symm
          clear h9
          rw [HFv.out]
          dsimp only
          refine hK.out _ _ hS (fun hS => ?_)
          clear hK K
          refine wpAnyH_take (i := 11) (oi := { dst := some 33, op := Go.Op.build 73 #[(0, Go.Operand.tmp 28), (1, Go.Operand.tmp 32)], type := 73, pos := "law.go:126", after := #[{ on := 6, ground := Go.Ground.data }, { on := 10, ground := Go.Ground.data }], guard := none }) (v := .agg #[.string f.n, .string f.v]) rfl (by kernel_rfl) (by kernel_rfl) (by kernel_rfl) (fun _ _ _ h => h) (Or.inl ⟨by kernel_rfl, ?_⟩) hS ?_
          · intro w5 hSw
            clear hSw hS
            go_simp
          simp only [Act.put, List.setIfInBounds_toArray, List.set_cons_zero, List.set_cons_succ]
          refine wpAnyH_ready (rs := [1, 12]) (by kernel_rfl) (by simp) ?_
          refine AllReadyH.cons (o := { dst := some 23, op := Go.Op.load 25 (Go.Operand.tmp 22), type := 25, pos := "law.go:126", after := #[{ on := 0, ground := Go.Ground.data }], guard := none }) rfl (fun K hK => ?_) (AllReadyH.cons (o := { dst := some 34, op := Go.Op.buildSlice 25 1 #[(0, Go.Operand.tmp 33)], type := 25, pos := "law.go:126", after := #[{ on := 11, ground := Go.Ground.data }], guard := none }) rfl (fun K hK => ?_) AllReadyH.nil)
          · rw [if_pos (by kernel_rfl)]
            have k3 := HRd.out.cell (i := 2) rfl
            go_simp
            refine hK.out _ _ hS (fun hS => ?_)
            clear hK K k3
            refine wpAnyH_ready (rs := [12]) (by kernel_rfl) (by simp) ?_
            refine AllReadyH.cons (o := { dst := some 34, op := Go.Op.buildSlice 25 1 #[(0, Go.Operand.tmp 33)], type := 25, pos := "law.go:126", after := #[{ on := 11, ground := Go.Ground.data }], guard := none }) rfl (fun K hK => ?_) AllReadyH.nil
            rw [if_pos (by kernel_rfl)]
            go_simp
            refine hK.out _ _ ⟨hS.1.up ((Up.refl _).alloc _), hS.2.1.up ((Up.refl _).alloc _), hS.2.2.alloc _⟩ (fun hS => ?_)
            clear hK K
            refine wpAnyH_ready (rs := [13]) (by kernel_rfl) (by simp) ?_
            refine AllReadyH.cons (o := { dst := some 35, op := Go.Op.call { callee := Go.Callee.builtin Go.Builtin.append, args := #[Go.Operand.tmp 23, Go.Operand.tmp 34], argTypes := #[25, 25] }, type := 25, pos := "law.go:126", after := #[{ on := 1, ground := Go.Ground.data }, { on := 12, ground := Go.Ground.data }, { on := 10, ground := Go.Ground.chain }], guard := none }) rfl (fun K hK => oper_of_list ?_) AllReadyH.nil
            refine wpList_appFd (w := wr.drew) (N := w.heap.size) rfl _ _ rfl a7 c7 (F.take i) f HLn.out rfl rfl HFd.out HU7.out.drew.size (by omega) ?_
            intro ax2 cx2 w7 o7 u7 g7
            have HU8 := Hid.of (u7 w HU7.out.drew (Nat.le_refl _))
            have HR8 := Hid.of (HRd.out.by g7 (own_ne HFd'.out HRd.out (by decide)))
            have HA8 := Hid.of (HAd.out.by g7 (own_ne HFd'.out HAd.out (by decide)))
            have HZ8 := Hid.of (HZd.out.by g7 (own_ne HFd'.out HZd.out (by decide)))
            have HB8 := Hid.of (HOd.out.kept g7 (own_off HOd.out HFd'.out (by decide)))
            have HF8 := Hid.of (show FdO w7 w.heap.size ax2 (F.take (i + 1)) cx2 by rw [HT.out]; exact o7)
            clear o7 u7 g7
            refine hK.out _ _ ⟨HA8.out, HZ8.out, HU8.out⟩ (fun hS => ?_)
            clear hK K
            simp only [Act.put, List.setIfInBounds_toArray, List.set_cons_zero, List.set_cons_succ]
            refine wpAnyH_take (i := 14) (oi := { dst := some 36, op := Go.Op.fieldAddr 33 (Go.Operand.tmp 3) 2, type := 0, pos := "law.go:126", after := #[{ on := 0, ground := Go.Ground.phase }, { on := 1, ground := Go.Ground.phase }, { on := 2, ground := Go.Ground.phase }, { on := 3, ground := Go.Ground.phase }, { on := 4, ground := Go.Ground.phase }, { on := 5, ground := Go.Ground.phase }, { on := 6, ground := Go.Ground.phase }, { on := 7, ground := Go.Ground.phase }, { on := 8, ground := Go.Ground.phase }, { on := 9, ground := Go.Ground.phase }, { on := 10, ground := Go.Ground.phase }, { on := 11, ground := Go.Ground.phase }, { on := 12, ground := Go.Ground.phase }, { on := 13, ground := Go.Ground.phase }], guard := none }) (v := .pointer (some ⟨Br, 2, none⟩)) rfl (by kernel_rfl) (by kernel_rfl) (by kernel_rfl) (fun _ _ _ h => h) (Or.inl ⟨by kernel_rfl, ?_⟩) hS ?_
            · intro w5 hSw
              clear hSw hS
              go_simp
            simp only [Act.put, List.setIfInBounds_toArray, List.set_cons_zero, List.set_cons_succ]
            refine wpAnyH_ready (rs := [15]) (by kernel_rfl) (by simp) ?_
            refine AllReadyH.cons (o := { dst := none, op := Go.Op.store 25 (Go.Operand.tmp 36) (Go.Operand.tmp 35), type := 0, pos := "law.go:126", after := #[{ on := 14, ground := Go.Ground.data }, { on := 13, ground := Go.Ground.data }, { on := 13, ground := Go.Ground.chain }, { on := 0, ground := Go.Ground.phase }, { on := 1, ground := Go.Ground.phase }, { on := 2, ground := Go.Ground.phase }, { on := 3, ground := Go.Ground.phase }, { on := 4, ground := Go.Ground.phase }, { on := 5, ground := Go.Ground.phase }, { on := 6, ground := Go.Ground.phase }, { on := 7, ground := Go.Ground.phase }, { on := 8, ground := Go.Ground.phase }, { on := 9, ground := Go.Ground.phase }, { on := 10, ground := Go.Ground.phase }, { on := 11, ground := Go.Ground.phase }, { on := 12, ground := Go.Ground.phase }, { on := 13, ground := Go.Ground.phase }], guard := none }) rfl (fun K hK => ?_) AllReadyH.nil
            have k3 := HR8.out.cell (i := 2) rfl
            have f3 := HR8.out.thaw 2
            have G8 := grown_set1 w7 Br 2 (.slice ax2 (i + 1) cx2)
            have HR9 := Hid.of (HR8.out.set 2 (.slice ax2 (i + 1) cx2))
            have HU9 := Hid.of (HU8.out.by G8 (fun g hg => by have := Option.some.inj hg; have := HBr.out; omega))
            have HA9 := Hid.of (HA8.out.by G8 (fun e => by have := Option.some.inj e; have := HBr.out; omega))
            have HZ9 := Hid.of (HZ8.out.by G8 (fun e => by have := Option.some.inj e; have := HBr.out; omega))
            have HB9 := Hid.of (HB8.out.kept G8 (.inr (own_ne HB8.out HR8.out (by decide))))
            have HF9 := Hid.of (show FdO (w7.setCell ⟨Br, 2, none⟩ (.slice ax2 (i + 1) cx2)) w.heap.size ax2 (F.take (i + 1)) cx2 from HF8.out.kept G8 (.inr (own_ne HF8.out HR8.out (by decide))))
            clear G8
            rw [if_pos (by kernel_rfl)]
            go_simp
            refine hK.out _ _ ⟨HA9.out, HZ9.out, HU9.out⟩ (fun hS => ?_)
            clear hK K hS
            refine wpAnyH_done (by kernel_rfl) ?_ _
            go_wp2
            go_roundw
            all_goals first
              | exact ⟨i + 1, by go_num, by omega, Hid.of ⟨ax2, cx2, HR9.out, HF9.out, HB9.out, HA9.out, HZ9.out, HU9.out⟩⟩
              | (simp [intOf]; omega)
          · rw [if_pos (by kernel_rfl)]
            go_simp
            refine hK.out _ _ ⟨hS.1.up ((Up.refl _).alloc _), hS.2.1.up ((Up.refl _).alloc _), hS.2.2.alloc _⟩ (fun hS => ?_)
            clear hK K
            refine wpAnyH_ready (rs := [1]) (by kernel_rfl) (by simp) ?_
            refine AllReadyH.cons (o := { dst := some 23, op := Go.Op.load 25 (Go.Operand.tmp 22), type := 25, pos := "law.go:126", after := #[{ on := 0, ground := Go.Ground.data }], guard := none }) rfl (fun K hK => ?_) AllReadyH.nil
            rw [if_pos (by kernel_rfl)]
            have k3 := ((HR7.out.up ((Up.refl wr).alloc (.cells #[.string f.n, .string f.v] 73))).up (Up.refl _).drew).cell (i := 2) rfl
            go_simp
            refine hK.out _ _ hS (fun hS => ?_)
            clear hK K k3
            refine wpAnyH_ready (rs := [13]) (by kernel_rfl) (by simp) ?_
            refine AllReadyH.cons (o := { dst := some 35, op := Go.Op.call { callee := Go.Callee.builtin Go.Builtin.append, args := #[Go.Operand.tmp 23, Go.Operand.tmp 34], argTypes := #[25, 25] }, type := 25, pos := "law.go:126", after := #[{ on := 1, ground := Go.Ground.data }, { on := 12, ground := Go.Ground.data }, { on := 10, ground := Go.Ground.chain }], guard := none }) rfl (fun K hK => oper_of_list ?_) AllReadyH.nil
            refine wpList_appFd (w := wr.drew) (N := w.heap.size) rfl _ _ rfl a7 c7 (F.take i) f HLn.out rfl rfl HFd.out HU7.out.drew.size (by omega) ?_
            intro ax2 cx2 w7 o7 u7 g7
            have HU8 := Hid.of (u7 w HU7.out.drew (Nat.le_refl _))
            have HR8 := Hid.of (HRd.out.by g7 (own_ne HFd'.out HRd.out (by decide)))
            have HA8 := Hid.of (HAd.out.by g7 (own_ne HFd'.out HAd.out (by decide)))
            have HZ8 := Hid.of (HZd.out.by g7 (own_ne HFd'.out HZd.out (by decide)))
            have HB8 := Hid.of (HOd.out.kept g7 (own_off HOd.out HFd'.out (by decide)))
            have HF8 := Hid.of (show FdO w7 w.heap.size ax2 (F.take (i + 1)) cx2 by rw [HT.out]; exact o7)
            clear o7 u7 g7
            refine hK.out _ _ ⟨HA8.out, HZ8.out, HU8.out⟩ (fun hS => ?_)
            clear hK K
            simp only [Act.put, List.setIfInBounds_toArray, List.set_cons_zero, List.set_cons_succ]
            refine wpAnyH_take (i := 14) (oi := { dst := some 36, op := Go.Op.fieldAddr 33 (Go.Operand.tmp 3) 2, type := 0, pos := "law.go:126", after := #[{ on := 0, ground := Go.Ground.phase }, { on := 1, ground := Go.Ground.phase }, { on := 2, ground := Go.Ground.phase }, { on := 3, ground := Go.Ground.phase }, { on := 4, ground := Go.Ground.phase }, { on := 5, ground := Go.Ground.phase }, { on := 6, ground := Go.Ground.phase }, { on := 7, ground := Go.Ground.phase }, { on := 8, ground := Go.Ground.phase }, { on := 9, ground := Go.Ground.phase }, { on := 10, ground := Go.Ground.phase }, { on := 11, ground := Go.Ground.phase }, { on := 12, ground := Go.Ground.phase }, { on := 13, ground := Go.Ground.phase }], guard := none }) (v := .pointer (some ⟨Br, 2, none⟩)) rfl (by kernel_rfl) (by kernel_rfl) (by kernel_rfl) (fun _ _ _ h => h) (Or.inl ⟨by kernel_rfl, ?_⟩) hS ?_
            · intro w5 hSw
              clear hSw hS
              go_simp
            simp only [Act.put, List.setIfInBounds_toArray, List.set_cons_zero, List.set_cons_succ]
            refine wpAnyH_ready (rs := [15]) (by kernel_rfl) (by simp) ?_
            refine AllReadyH.cons (o := { dst := none, op := Go.Op.store 25 (Go.Operand.tmp 36) (Go.Operand.tmp 35), type := 0, pos := "law.go:126", after := #[{ on := 14, ground := Go.Ground.data }, { on := 13, ground := Go.Ground.data }, { on := 13, ground := Go.Ground.chain }, { on := 0, ground := Go.Ground.phase }, { on := 1, ground := Go.Ground.phase }, { on := 2, ground := Go.Ground.phase }, { on := 3, ground := Go.Ground.phase }, { on := 4, ground := Go.Ground.phase }, { on := 5, ground := Go.Ground.phase }, { on := 6, ground := Go.Ground.phase }, { on := 7, ground := Go.Ground.phase }, { on := 8, ground := Go.Ground.phase }, { on := 9, ground := Go.Ground.phase }, { on := 10, ground := Go.Ground.phase }, { on := 11, ground := Go.Ground.phase }, { on := 12, ground := Go.Ground.phase }, { on := 13, ground := Go.Ground.phase }], guard := none }) rfl (fun K hK => ?_) AllReadyH.nil
            have k3 := HR8.out.cell (i := 2) rfl
            have f3 := HR8.out.thaw 2
            have G8 := grown_set1 w7 Br 2 (.slice ax2 (i + 1) cx2)
            have HR9 := Hid.of (HR8.out.set 2 (.slice ax2 (i + 1) cx2))
            have HU9 := Hid.of (HU8.out.by G8 (fun g hg => by have := Option.some.inj hg; have := HBr.out; omega))
            have HA9 := Hid.of (HA8.out.by G8 (fun e => by have := Option.some.inj e; have := HBr.out; omega))
            have HZ9 := Hid.of (HZ8.out.by G8 (fun e => by have := Option.some.inj e; have := HBr.out; omega))
            have HB9 := Hid.of (HB8.out.kept G8 (.inr (own_ne HB8.out HR8.out (by decide))))
            have HF9 := Hid.of (show FdO (w7.setCell ⟨Br, 2, none⟩ (.slice ax2 (i + 1) cx2)) w.heap.size ax2 (F.take (i + 1)) cx2 from HF8.out.kept G8 (.inr (own_ne HF8.out HR8.out (by decide))))
            clear G8
            rw [if_pos (by kernel_rfl)]
            go_simp
            refine hK.out _ _ ⟨HA9.out, HZ9.out, HU9.out⟩ (fun hS => ?_)
            clear hK K hS
            refine wpAnyH_done (by kernel_rfl) ?_ _
            go_wp2
            go_roundw
            all_goals first
              | exact ⟨i + 1, by go_num, by omega, Hid.of ⟨ax2, cx2, HR9.out, HF9.out, HB9.out, HA9.out, HZ9.out, HU9.out⟩⟩
              | (simp [intOf]; omega)
      · have hilz : ¬ (i : Int) < (ns.length : Int) := by omega
        have hin : i = ns.length := by omega
        subst hin
        have HF8 := Hid.of (show FdO wr w.heap.size a7 F c7 by
          have h1 := HF7.out
          rw [List.take_of_length_le (by rw [HFl.out]; exact Nat.le_refl _)] at h1
          exact h1)
        go_wp2_with (with_reducible show wpList _ _ _ ({ dst := _, op := Op.load 33 _, type := _, pos := _, after := _, guard := _ } :: _) _ _; refine Shut.out ?_)
        show wpList _ _ _ _ _ _
        refine wpList_load_mid rfl _ _ rfl Br 0 rfl [.int .i64 st, .int .i64 mi, .slice a7 ns.length c7, .slice a5 L5 c5, .bool false] _ HR7.out.range Tryz.underlying33 rfl (by kernel_rfl) ?_
        simp only [Act.put, List.setIfInBounds_toArray, List.set_cons_zero, List.set_cons_succ]
        refine wpList_store_at rfl 33 _ _ rfl (w.heap.size + 1) HZ7.out [.int .i64 st, .int .i64 mi, .slice a7 ns.length c7, .slice a5 L5 c5, .bool false] rfl rfl rfl (by kernel_rfl) (by kernel_rfl) ?_
        intro w8 hA8 hg8
        have HA8 := Hid.of hA8
        have HU8 := Hid.of (HU7.out.by hg8 (fun g hg => by have := Option.some.inj hg; omega))
        have HF9 := Hid.of (show FdO w8 w.heap.size a7 F c7 from HF8.out.kept hg8 (.inr (own_ne HF8.out HZ7.out (by decide))))
        have HO9 := Hid.of (HO7.out.kept hg8 (.inr (own_ne HO7.out HZ7.out (by decide))))
        clear hA8 hg8
        simp only [Act.put]
        repeat go_step
        refine bodyPost_ret (results_agg1 Tryz.results25 _ _ (w.heap.size + 1) [.int .i64 st, .int .i64 mi, .slice a7 ns.length c7, .slice a5 L5 c5, .bool false] rfl HA8.out.range Tryz.underlying33 rfl (by kernel_rfl)) rfl ?_
        exact ⟨⟨a7, c7, _, rfl, Hid.of ⟨HF9.out, by unfold Ow; rw [HL5.out]; exact HO9.out⟩⟩, HU8.out⟩
end Go.Proofs.YtbgjnghjddcooaaGreatDoor
